/- At every list of nodes that can be read graph.Check answers what the reference's NodesFault answers (GraphChecks), without conditions. -/
import Derived.Test.YtedpiamfpbdhoaaRows
import Derived.Test.YtedpiamfpbdhoaaGrFault
import Derived.Test.YtedpiamfpbdhoaaFaceRead
import Derived.OpenShut
import Derived.ChangeOld
namespace Go.Proofs.Ytedpiamfpbdhoaa.graphChecks
open Go.ChangeShapes Go.WideShapes Go.ChangeAt Go.RowKit

theorem own : ownKnob Try.prog.godebug = none := by kernel_rfl
theorem laidOut : laidOutB Try.prog = true := by kernel_rfl

theorem cellsNd : Try.prog.cellsOf 31 = 2 := by kernel_rfl
theorem bytesNd : Try.prog.bytesOf 31 = 40 := by kernel_rfl

section
variable {H : Type} {enc : TypeId × Value → H} {W : World} {base : Nat} {spare : Nat → Bool} {held : Bool}
set_option maxRecDepth 100000 in
theorem nd_read (fuel : Nat) (cs : List Value) (x : DataW H × List MemPlace) (h : DataW.trod enc Try.prog W base spare held fuel 31 cs = some x) (hx : ∀ n ∈ x.1.weights Try.prog 31, n ≤ reachBytes) :
    ∃ (g : Nd) (vp : Value), cs = [.string g.name, vp] ∧ g.name.size ≤ maxLen ∧ SlAt (fun b => b < W.heap.size) (StrAt W) 1 g.uses vp := by
  obtain ⟨ys, n, _, rfl, hlen, hyl0, hf⟩ := DataW.trod_struct Try.underlying31 h
  rw [cellsNd] at hlen
  match cs, hlen with
  | [v0, v1], _ =>
    have g0 : DataW.trod enc Try.prog W base spare held n 9 (([v0, v1].drop 0).take (Try.prog.cellsOf 9)) = ys[0]? := hf 0 _ rfl
    rw [cellsS] at g0
    have g1 : DataW.trod enc Try.prog W base spare held n 26 (([v0, v1].drop 1).take (Try.prog.cellsOf 26)) = ys[1]? := hf 1 _ rfl
    rw [cellsStrs] at g1
    have hyl : ys.length = 2 := hyl0
    obtain ⟨y0, e0⟩ : ∃ y, ys[0]? = some y := ⟨_, List.getElem?_eq_getElem (by omega)⟩
    obtain ⟨y1, e1⟩ : ∃ y, ys[1]? = some y := ⟨_, List.getElem?_eq_getElem (by omega)⟩
    obtain ⟨a, ha, has, _⟩ := str_readZ (g0.trans e0) (agg_each Try.underlying31 hx rfl e0)
    obtain ⟨vp, l, hvp, hsl, _⟩ := sl_readZ (P := StrAt W) (Q := fun _ => True) Try.underlying26 cellsS bytesS (by omega) (g1.trans e1) (agg_each Try.underlying31 hx rfl e1) (fun m' cs' x' b o hx' hz' _ hl' => by
      obtain ⟨s, rfl, hs, _⟩ := str_readZ hx' hz'
      exact ⟨s, ⟨hl'.2 0 (by simp), hs⟩, trivial⟩)
    simp at ha hvp
    subst ha hvp
    exact ⟨⟨a, l⟩, v1, rfl, has, hsl⟩
end

theorem walk (v : Value) (l : List Nd) (w : World) (hv : SlAt (fun b => b < w.heap.size) (NdAt (fun b => b < w.heap.size) w) 2 l v) :
    Calls Try.prog 3 #[v] w fun e w' => e = .returned (.bool true) ∧ Below w.heap.size w w' := by
  have HC : Hid (Calls Try.prog 5 #[v] w fun e w' => e = .returned (.int .i64 (ndsFault l)) ∧ Below w.heap.size w w') := checkNodes_any (fun b => b < w.heap.size) l v w (fun _ h => h) hv
  have HD : Hid (∀ W : World, Below w.heap.size w W → Calls Try.prog 6 #[v] W fun e w' => e = .returned (.int .i64 (ndsFault l)) ∧ Below W.heap.size W w') := fun W hW =>
    nodesFault_any (fun b => b < w.heap.size) l v W (fun b hb => Nat.lt_of_lt_of_le hb hW.size) (ndSl_keep (Keeps.below hW fun _ h => h) hv)
  obtain ⟨a, n, cap, rfl⟩ := hv.slice
  clear hv
  generalize ndsFault l = r at *
  go_enter Try.func3, Try.ntmps3
  go_wp2_with fail
  refine HC.out.mono ?_
  rintro e w' ⟨rfl, hb⟩
  have HB := veil hb
  clear hb
  go_wp2_with fail
  refine (HD.out _ HB.out).mono ?_
  rintro e w2 ⟨rfl, hb2⟩
  have HB2 := veil (HB.out.trans (hb2.mono HB.out.size))
  clear hb2
  go_wp2_with fail
  go_ret
  exact ⟨by simp, HB2.out⟩

set_option maxRecDepth 100000 in
theorem lifted (os : Os) (started : os.Started) (H : Type) (enc : TypeId × Value → H) :
    ReturnsInHanded {} Try.checked os 3 .any (Rows.graphChecksSpec.pre6 enc Try.prog Try.f3 Rows.graphChecksRow.domain false) (Rows.graphChecksSpec.post enc Try.prog Try.f3 false true false false) := by
  refine returnsInHanded_of_change_sized (C := Try.checked) own started (by kernel_rfl) Try.func3
    (ChangeSpec.witness6 (enc := enc) (C := Try.checked) false ⟨#[], #[.slice none 0 0], []⟩ 8 (by kernel_rfl) (by kernel_rfl) (by kernel_rfl) (by kernel_rfl)) ?_
  intro W base args ds gs before hval0 hW hcnd hsz _
  have hval : ∀ (j : Nat) t v, Try.f3.params[j]? = some t → args[j]? = some v → Value.okWide Try.prog W .any base t v := hval0
  have hW' := hW
  obtain ⟨p, q, hA0, hV, rfl, hfz, hnd⟩ := hW
  have hA : DataW.TrodAll enc Try.prog W 0 (fun _ => true) true Try.f3.params.toList args.toList ds p := hA0
  rw [Try.params3] at hA hval hsz
  obtain ⟨v0, vs0, d0, ds0, p0, q0, hargs, rfl, rfl, h0, r0⟩ := trodAll_cons hA
  obtain ⟨rfl, rfl, rfl⟩ := trodAll_nil r0
  obtain rfl : args = #[v0] := by cases args; simp_all
  obtain ⟨rfl, rfl⟩ := trodVars_none hV
  obtain ⟨a0, len0, cap0, rfl⟩ := okWide_slice Try.underlying22 (hval 0 22 v0 rfl rfl)
  have k0 := h0
  have lt0 : ∀ x ∈ p0, x.block < W.heap.size := by obtain ⟨m, hm⟩ := k0; exact DataW.trod_lt m _ _ _ hm
  have z0 : ∀ n ∈ d0.weights Try.prog 22, n ≤ reachBytes := fun n hn => by
    have := List.all_eq_true.1 hsz n (DataW.weights_mem_each (j := 0) (t := 22) (d := d0) rfl rfl n hn)
    simpa using this
  obtain ⟨l0, w0⟩ : ∃ l, SlAt (fun b => b < W.heap.size) (NdAt (fun b => b < W.heap.size) W) 2 l (.slice a0 len0 cap0) := by
    obtain ⟨fuel, hf⟩ := h0
    obtain ⟨v, l, hv, hl, _⟩ := sl_readZ (P := NdAt (fun b => b < W.heap.size) W) (Q := fun _ => True) Try.underlying22 cellsNd bytesNd (by omega) hf z0 (fun m' cs' x' b o hx' hz' _ hl' => by
      obtain ⟨g, vp, rfl, h1, h2⟩ := nd_read _ _ _ hx' hz'
      exact ⟨g, ⟨⟨hl'.2 0 (by simp), h1⟩, vp, hl'.2 1 (by simp), h2⟩, trivial⟩)
    have e : Value.slice a0 len0 cap0 = v := by simpa [Value.cells] using hv
    exact ⟨l, by rw [e]; exact hl⟩
  clear hA0 hval0
  refine (walk _ l0 W w0).mono fun e W' ⟨he, bel⟩ => ?_
  subst he
  exact ⟨_, rfl, _, _, _, [], _, [], hW', trodAll_mk1 (shut_bool Try.underlying4 _), (trodAll_cons_mk (Below.trod laidOut (by kernel_rfl) (of_decide_eq_true (by kernel_rfl)) k0 bel lt0) trodAll_mk0), rfl, bel.frame _, fun h => by cases h⟩

theorem over : Rows.graphChecksRow.holds Try.pinned (OpenSpec.ofChange Rows.graphChecksSpec) :=
  OpenClaim.holds_of_wide 3 Try.f3 rfl rfl rfl rfl rfl rfl rfl ⟨rfl, rfl, rfl, rfl, rfl⟩ rfl rfl rfl rfl rfl (by kernel_rfl) Try.func3 (by kernel_rfl)
    (of_decide_eq_true (by kernel_rfl)) (by unfold Func.isWrapper; first | (rw [if_pos (by decide +kernel)]; kernel_rfl) | (rw [if_neg (by decide +kernel)]; exact ⟨rfl, rfl⟩))
    (fun os started H enc _ => lifted os started H enc)

theorem proved : Rows.GraphChecksSaid :=
  over
#print axioms proved
end Go.Proofs.Ytedpiamfpbdhoaa.graphChecks
