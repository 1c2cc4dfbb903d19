/- At every list of nodes that can be read graph.Order answers what the reference's OrderOf answers (GraphOrders), without conditions. -/
import Derived.Test.YtedpiamfpbdhoaaRows
import Derived.Test.YtedpiamfpbdhoaaGrRef
import Derived.Test.YtedpiamfpbdhoaaSame2
import Derived.Test.YtedpiamfpbdhoaaFaceRead
import Derived.OpenShut
import Derived.ChangeOld
namespace Go.Proofs.Ytedpiamfpbdhoaa.graphOrders
open Go.ChangeShapes Go.WideShapes Go.ChangeAt Go.RowKit

theorem own : ownKnob Try.prog.godebug = none := by kernel_rfl
theorem laidOut : laidOutB Try.prog = true := by kernel_rfl

theorem cellsNd : Try.prog.cellsOf 31 = 2 := by kernel_rfl
theorem bytesNd : Try.prog.bytesOf 31 = 40 := by kernel_rfl

section
variable {H : Type} {enc : TypeId × Value → H} {W : World} {base : Nat} {spare : Nat → Bool} {held : Bool}
set_option maxRecDepth 100000 in
theorem nd_read (fuel : Nat) (cs : List Value) (x : DataW H × List MemPlace) (h : DataW.trod enc Try.prog W base spare held fuel 31 cs = some x) (hx : ∀ n ∈ x.1.weights Try.prog 31, n ≤ reachBytes) :
    ∃ (g : Nd) (vp : Value), cs = [.string g.name, vp] ∧ g.name.size ≤ maxLen ∧ SlAt (fun b => b < W.heap.size) (StrAt W) 1 g.uses vp := by
  obtain ⟨ys, n, _, rfl, hlen, hyl0, hf⟩ := DataW.trod_struct Try.underlying31 h
  rw [cellsNd] at hlen
  match cs, hlen with
  | [v0, v1], _ =>
    have g0 : DataW.trod enc Try.prog W base spare held n 9 (([v0, v1].drop 0).take (Try.prog.cellsOf 9)) = ys[0]? := hf 0 _ rfl
    rw [cellsS] at g0
    have g1 : DataW.trod enc Try.prog W base spare held n 26 (([v0, v1].drop 1).take (Try.prog.cellsOf 26)) = ys[1]? := hf 1 _ rfl
    rw [cellsStrs] at g1
    have hyl : ys.length = 2 := hyl0
    obtain ⟨y0, e0⟩ : ∃ y, ys[0]? = some y := ⟨_, List.getElem?_eq_getElem (by omega)⟩
    obtain ⟨y1, e1⟩ : ∃ y, ys[1]? = some y := ⟨_, List.getElem?_eq_getElem (by omega)⟩
    obtain ⟨a, ha, has, _⟩ := str_readZ (g0.trans e0) (agg_each Try.underlying31 hx rfl e0)
    obtain ⟨vp, l, hvp, hsl, _⟩ := sl_readZ (P := StrAt W) (Q := fun _ => True) Try.underlying26 cellsS bytesS (by omega) (g1.trans e1) (agg_each Try.underlying31 hx rfl e1) (fun m' cs' x' b o hx' hz' _ hl' => by
      obtain ⟨s, rfl, hs, _⟩ := str_readZ hx' hz'
      exact ⟨s, ⟨hl'.2 0 (by simp), hs⟩, trivial⟩)
    simp at ha hvp
    subst ha hvp
    exact ⟨⟨a, l⟩, v1, rfl, has, hsl⟩
end

theorem sl_now {w w' : World} {n : Nat} {l : List ByteArray} {v : Value} (h : SlAt (fun b => n ≤ b ∧ b < w.heap.size) (StrAt w) 1 l v) (hb : Below w.heap.size w w') : SlAt (fun b => b < w'.heap.size) (StrAt w') 1 l v :=
  strSl_keep ⟨fun b hb' => hb.block b hb'.2, fun _ hb' => Nat.lt_of_lt_of_le hb'.2 hb.size⟩ h

set_option maxHeartbeats 4000000 in
theorem walk (v : Value) (l : List Nd) (w : World) (hv : SlAt (fun b => b < w.heap.size) (NdAt (fun b => b < w.heap.size) w) 2 l v) :
    Calls Try.prog 4 #[v] w fun e w' => e = .returned (.bool true) ∧ Below w.heap.size w w' := by
  have HC := veil (order_any (fun b => b < w.heap.size) l v w (fun _ h => h) hv)
  have HD : Hid (∀ W : World, Below w.heap.size w W → Calls Try.prog 8 #[v] W fun e w' => ∃ vf vl, e = .returned (.tuple #[vf, vl, .int .i64 (ordN l).2.2]) ∧ SlAt (fun b => W.heap.size ≤ b ∧ b < w'.heap.size) (StrAt w') 1 (ordN l).1 vf ∧ SlAt (fun b => W.heap.size ≤ b ∧ b < w'.heap.size) (StrAt w') 1 (ordN l).2.1 vl ∧ Below W.heap.size W w') := fun W hW =>
    orderOf_any (fun b => b < w.heap.size) l v W (fun b hb => Nat.lt_of_lt_of_le hb hW.size) (ndSl_keep (Keeps.below hW fun _ h => h) hv)
  obtain ⟨a, n, cap, rfl⟩ := hv.slice
  clear hv
  obtain ⟨fs, ls, er, hr⟩ : ∃ fs ls er, ordN l = (fs, ls, er) := ⟨_, _, _, rfl⟩
  rw [hr] at HC HD
  clear hr
  go_enter Try.func4, Try.ntmps4
  go_wp2_with fail
  refine HC.out.mono ?_
  rintro e w1 ⟨vf, vl, rfl, h1, h2, hb1⟩
  obtain ⟨p1, p2, p3, rfl⟩ := h1.slice
  obtain ⟨q1, q2, q3, rfl⟩ := h2.slice
  have H1 := veil h1
  have H2 := veil h2
  have HB1 := veil hb1
  clear h1 h2 hb1 HC
  go_wp2_with fail
  refine (HD.out _ HB1.out).mono ?_
  rintro e w2 ⟨vf2, vl2, rfl, h3, h4, hb2⟩
  obtain ⟨p4, p5, p6, rfl⟩ := h3.slice
  obtain ⟨q4, q5, q6, rfl⟩ := h4.slice
  have HB2 := veil (HB1.out.trans (hb2.mono HB1.out.size))
  have HS1 : Hid (Calls Try.prog 9 #[.slice p1 p2 p3, .slice p4 p5 p6] w2 fun e w' => e = .returned (.bool true) ∧ Below w2.heap.size w2 w') :=
    sameTexts_any (fun b => b < w2.heap.size) fs _ _ w2 (fun _ h => h) (sl_now H1.out hb2) (sl_now h3 (Below.refl _ _))
  have HS2 : Hid (∀ W, Below w2.heap.size w2 W → Calls Try.prog 9 #[.slice q1 q2 q3, .slice q4 q5 q6] W fun e w' => e = .returned (.bool true) ∧ Below W.heap.size W w') := fun W hW =>
    sameTexts_any (fun b => b < W.heap.size) ls _ _ W (fun _ h => h) (sl_now H2.out (hb2.trans (hW.mono hb2.size))) (sl_now h4 hW)
  clear h3 h4 hb2 HD H1 H2
  go_wp2_with fail
  refine HS1.out.mono ?_
  rintro e w3 ⟨rfl, hb3⟩
  have HB3 := veil hb3
  have HB3' := veil (HB2.out.trans (hb3.mono HB2.out.size))
  clear hb3 HS1
  go_wp2_with fail
  refine (HS2.out _ HB3.out).mono ?_
  rintro e w4 ⟨rfl, hb4⟩
  have HB4 := veil (HB3'.out.trans (hb4.mono HB3'.out.size))
  clear hb4 HS2
  go_wp2_with fail
  go_ret
  exact ⟨by simp, HB4.out⟩

set_option maxRecDepth 100000 in
theorem lifted (os : Os) (started : os.Started) (H : Type) (enc : TypeId × Value → H) :
    ReturnsInHanded {} Try.checked os 4 .any (Rows.graphOrdersSpec.pre6 enc Try.prog Try.f4 Rows.graphOrdersRow.domain false) (Rows.graphOrdersSpec.post enc Try.prog Try.f4 false true false false) := by
  refine returnsInHanded_of_change_sized (C := Try.checked) own started (by kernel_rfl) Try.func4
    (ChangeSpec.witness6 (enc := enc) (C := Try.checked) false ⟨#[], #[.slice none 0 0], []⟩ 8 (by kernel_rfl) (by kernel_rfl) (by kernel_rfl) (by kernel_rfl)) ?_
  intro W base args ds gs before hval0 hW hcnd hsz _
  have hval : ∀ (j : Nat) t v, Try.f4.params[j]? = some t → args[j]? = some v → Value.okWide Try.prog W .any base t v := hval0
  have hW' := hW
  obtain ⟨p, q, hA0, hV, rfl, hfz, hnd⟩ := hW
  have hA : DataW.TrodAll enc Try.prog W 0 (fun _ => true) true Try.f4.params.toList args.toList ds p := hA0
  rw [Try.params4] at hA hval hsz
  obtain ⟨v0, vs0, d0, ds0, p0, q0, hargs, rfl, rfl, h0, r0⟩ := trodAll_cons hA
  obtain ⟨rfl, rfl, rfl⟩ := trodAll_nil r0
  obtain rfl : args = #[v0] := by cases args; simp_all
  obtain ⟨rfl, rfl⟩ := trodVars_none hV
  obtain ⟨a0, len0, cap0, rfl⟩ := okWide_slice Try.underlying22 (hval 0 22 v0 rfl rfl)
  have k0 := h0
  have lt0 : ∀ x ∈ p0, x.block < W.heap.size := by obtain ⟨m, hm⟩ := k0; exact DataW.trod_lt m _ _ _ hm
  have z0 : ∀ n ∈ d0.weights Try.prog 22, n ≤ reachBytes := fun n hn => by
    have := List.all_eq_true.1 hsz n (DataW.weights_mem_each (j := 0) (t := 22) (d := d0) rfl rfl n hn)
    simpa using this
  obtain ⟨l0, w0⟩ : ∃ l, SlAt (fun b => b < W.heap.size) (NdAt (fun b => b < W.heap.size) W) 2 l (.slice a0 len0 cap0) := by
    obtain ⟨fuel, hf⟩ := h0
    obtain ⟨v, l, hv, hl, _⟩ := sl_readZ (P := NdAt (fun b => b < W.heap.size) W) (Q := fun _ => True) Try.underlying22 cellsNd bytesNd (by omega) hf z0 (fun m' cs' x' b o hx' hz' _ hl' => by
      obtain ⟨g, vp, rfl, h1, h2⟩ := nd_read _ _ _ hx' hz'
      exact ⟨g, ⟨⟨hl'.2 0 (by simp), h1⟩, vp, hl'.2 1 (by simp), h2⟩, trivial⟩)
    have e : Value.slice a0 len0 cap0 = v := by simpa [Value.cells] using hv
    exact ⟨l, by rw [e]; exact hl⟩
  clear hA0 hval0
  refine (walk _ l0 W w0).mono fun e W' ⟨he, bel⟩ => ?_
  subst he
  exact ⟨_, rfl, _, _, _, [], _, [], hW', trodAll_mk1 (shut_bool Try.underlying4 _), (trodAll_cons_mk (Below.trod laidOut (by kernel_rfl) (of_decide_eq_true (by kernel_rfl)) k0 bel lt0) trodAll_mk0), rfl, bel.frame _, fun h => by cases h⟩

theorem over : Rows.graphOrdersRow.holds Try.pinned (OpenSpec.ofChange Rows.graphOrdersSpec) :=
  OpenClaim.holds_of_wide 4 Try.f4 rfl rfl rfl rfl rfl rfl rfl ⟨rfl, rfl, rfl, rfl, rfl⟩ rfl rfl rfl rfl rfl (by kernel_rfl) Try.func4 (by kernel_rfl)
    (of_decide_eq_true (by kernel_rfl)) (by unfold Func.isWrapper; first | (rw [if_pos (by decide +kernel)]; kernel_rfl) | (rw [if_neg (by decide +kernel)]; exact ⟨rfl, rfl⟩))
    (fun os started H enc _ => lifted os started H enc)

theorem proved : Rows.GraphOrdersSaid :=
  over
#print axioms proved
end Go.Proofs.Ytedpiamfpbdhoaa.graphOrders
