/- What graph.Order answers: those that lead to themselves last, all others first, by their names as far as can be. -/
import Derived.Test.YtedpiamfpbdhoaaGrNames
import Derived.Test.YtedpiamfpbdhoaaGrCheck2
import Derived.OwnWalk
namespace Go.Proofs.Ytedpiamfpbdhoaa
open Go.RowKit

/-- what is told first, what last, and what is wrong. -/
def ordN (l : List Nd) : List ByteArray × List ByteArray × Int :=
  if ndsFault l = 0 then (((ordAll l.length (grE l) (rdB l.length (grE l))).map (nmN l)).reverse, namL l (rdB l.length (grE l)) l.length, 0) else ([], [], ndsFault l)

/-- the list of those that are settled lies in block rB; what lay there before is as it was. -/
structure OrdAt (w w5 : World) (rB n : Nat) (st : Nat → Bool) (W : World) : Prop where
  row : BRow w rB n st W
  in5 : rB < w5.heap.size
  low5 : w.heap.size ≤ w5.heap.size
  size : w5.heap.size ≤ W.heap.size
  rest : ∀ b, b < w5.heap.size → b ≠ rB → W.heap[b]? = w5.heap[b]?

theorem OrdAt.near {w w5 : World} {rB n : Nat} {st : Nat → Bool} {W W' : World} (h : OrdAt w w5 rB n st W) (hb : Below w5.heap.size W W') : OrdAt w w5 rB n st W' :=
  ⟨⟨h.row.below.trans (hb.mono h.low5), h.row.low, Nat.lt_of_lt_of_le h.row.top hb.size, fun i hi => by
    obtain ⟨h1, h2⟩ := h.row.arr i hi
    exact ⟨(hb.cell (p := ⟨rB, i, none⟩) h.in5).trans h1, (hb.frozen (p := ⟨rB, i, none⟩) h.in5).trans h2⟩⟩, h.in5, h.low5, Nat.le_trans h.size hb.size, fun b hb5 hne => (hb.block b hb5).trans (h.rest b hb5 hne)⟩
theorem OrdAt.put {w w5 : World} {rB n : Nat} {st q : Nat → Bool} {W : World} (h : OrdAt w w5 rB n st W) {k : Nat} (hk : k < n) (hq : ∀ i, i < n → i ≠ k → q i = st i) : OrdAt w w5 rB n q (W.setCell ⟨rB, k, none⟩ (.bool (q k))) :=
  ⟨h.row.put hk hq, h.in5, h.low5, by simpa [World.setCell] using h.size, fun b hb5 hne => (Below.heap_setCell _ _ _ _ (by show b ≠ rB; exact hne)).trans (h.rest b hb5 hne)⟩

def slLen : Value → Nat
  | .slice _ k _ => k
  | _ => 0
theorem ownsTx_len {w : World} {B : Nat} {v : Value} {n : Nat} {xs : List Value} (h : w.ownsRow B 9 1 v n xs) : slLen v = n := by
  obtain ⟨_, ⟨hv, hn⟩ | ⟨g, cap, cur, hv, _⟩⟩ := h
  · rw [hv, hn]; rfl
  · rw [hv]; rfl

theorem nxtI_some {n : Nat} {E : Nat → List Nat} {rd : Nat → Bool} {out : List Nat} {i : Nat} (h : nxt n E rd out = some i) : nxtI n E (fun i => rd i || inL out i) = (i : Int) := by
  unfold nxtI
  have : (List.range n).find? (rdyS n E (fun i => rd i || inL out i)) = some i := h
  rw [this]
theorem nxtI_nothing {n : Nat} {E : Nat → List Nat} {rd : Nat → Bool} {out : List Nat} (h : nxt n E rd out = none) : nxtI n E (fun i => rd i || inL out i) = -1 := by
  unfold nxtI
  have : (List.range n).find? (rdyS n E (fun i => rd i || inL out i)) = none := h
  rw [this]

def told (l : List Nd) (out : List Nat) : List ByteArray := (out.map (nmN l)).reverse
theorem told_cons (l : List Nd) (i : Nat) (out : List Nat) : told l (i :: out) = told l out ++ [nmN l i] := by simp [told]
theorem told_len (l : List Nd) (out : List Nat) : (told l out).length = out.length := by simp [told]
theorem nmN_size {l : List Nd} (h : ∀ d ∈ l, d.name.size ≤ 281474976710656) (i : Nat) : (nmN l i).size ≤ maxLen := by
  unfold nmN
  cases hk : l[i]? with
  | none => exact Nat.zero_le _
  | some d => have := h d (List.mem_of_getElem? hk); show d.name.size ≤ _; unfold maxLen; omega
theorem told_size {l : List Nd} (h : ∀ d ∈ l, d.name.size ≤ 281474976710656) (out : List Nat) : ∀ s ∈ told l out, s.size ≤ maxLen := fun s hs => by
  simp only [told, List.mem_reverse, List.mem_map] at hs
  obtain ⟨i, _, rfl⟩ := hs
  exact nmN_size h i

theorem nds_small {l : List Nd} (h : ndsFault l = 0) : l.length ≤ 10 ∧ ∀ d ∈ l, d.name.size ≤ 8 := by
  unfold ndsFault at h
  by_cases h10 : 10 < (l.length : Int)
  · rw [if_pos h10] at h; exact absurd h (by decide)
  · rw [if_neg h10] at h
    refine ⟨by omega, fun d hd => ?_⟩
    have := (order_all (fun _ h => h) h d hd).2
    have hok : ndOk d = true := by
      unfold ndFault bad4 at this
      by_cases hx : ndOk d = true
      · exact hx
      · rw [if_neg hx] at this; exact absurd this (by decide)
    have hi : identOk d.name = true := by
      unfold ndOk at hok
      simp only [Bool.and_eq_true] at hok
      exact hok.1
    have hw : wordOk d.name = true := by
      unfold identOk at hi
      simp only [Bool.and_eq_true] at hi
      exact hi.1
    by_cases hs : 1 ≤ d.name.size ∧ d.name.size ≤ 8
    · omega
    · rw [word_long _ hs] at hw; cases hw

set_option maxHeartbeats 8000000 in
theorem order_any (S : Nat → Prop) (l : List Nd) (v : Value) (w : World) (hS : ∀ b, S b → b < w.heap.size) (hv : SlAt S (NdAt S w) 2 l v) :
    Calls Try.prog 7 #[v] w fun e w' => ∃ vf vl, e = .returned (.tuple #[vf, vl, .int .i64 (ordN l).2.2]) ∧ SlAt (fun b => w.heap.size ≤ b ∧ b < w'.heap.size) (StrAt w') 1 (ordN l).1 vf ∧ SlAt (fun b => w.heap.size ≤ b ∧ b < w'.heap.size) (StrAt w') 1 (ordN l).2.1 vl ∧ Below w.heap.size w w' := by
  have HC : Hid (Calls Try.prog 5 #[v] w fun e w' => e = .returned (.int .i64 (ndsFault l)) ∧ Below w.heap.size w w') := checkNodes_any S l _ w hS hv
  have HL := veil hv
  have hlen := hv.len
  unfold maxLen at hlen
  obtain ⟨la, lc, rfl⟩ := hv.is
  clear hv
  have HE : Hid (ordN l = if ndsFault l = 0 then (((ordAll l.length (grE l) (rdB l.length (grE l))).map (nmN l)).reverse, namL l (rdB l.length (grE l)) l.length, 0) else ([], [], ndsFault l)) := rfl
  by_cases hf : ndsFault l = 0
  case neg =>
    have HE' : Hid (ordN l = ([], [], ndsFault l)) := HE.out.trans (if_neg hf)
    clear HE HL
    generalize ordN l = r at *
    generalize ndsFault l = er at *
    have hf' : (er != 0) = true := by simpa using hf
    clear hf
    go_enter Try.func7, Try.ntmps7
    go_wp2_with fail
    refine HC.out.mono ?_
    rintro e w1 ⟨rfl, hb1⟩
    have HB1 := veil hb1
    clear hb1
    go_wp2_with fail
    go_ret3
    rw [HE'.out]
    exact ⟨_, _, rfl, ⟨none, 0, rfl, ⟨by simp, by simp⟩, Or.inl rfl⟩, ⟨none, 0, rfl, ⟨by simp, by simp⟩, Or.inl rfl⟩, HB1.out⟩
  obtain ⟨h10, h8⟩ := nds_small hf
  have hx : ∀ d ∈ l, d.name.size ≤ 281474976710656 := fun d hd => by have := h8 d hd; omega
  have HX := veil hx
  have HE' : Hid (ordN l = (told l (ordAll l.length (grE l) (rdB l.length (grE l))), namL l (rdB l.length (grE l)) l.length, 0)) := HE.out.trans (if_pos hf)
  rw [hf] at HC
  clear HE hf h8 hx
  generalize hrd : rdB l.length (grE l) = rd at *
  have HRd := veil hrd
  clear hrd
  obtain ⟨i0, hi, hz0, hz1, hz2⟩ := info_parts str_info
  have HI0 := veil hi
  have HZ0 := veil hz0
  have HZ1 := veil hz1
  have HZ2 := veil hz2
  clear hi hz0 hz1 hz2
  generalize ordN l = r at *
  go_enter Try.func7, Try.ntmps7
  go_wp2_with fail
  refine HC.out.mono ?_
  rintro e w1 ⟨rfl, hb1⟩
  have HB1 := veil hb1
  clear hb1 HC
  go_wp2_with fail
  refine (finder_made _ _ _ _).mono ?_
  rintro e w2' ⟨rfl, rfl⟩
  obtain ⟨w2, HW2, hs2, hb12, q0⟩ : ∃ w2, Hid (w1.alloc (.cells #[.slice la l.length lc] 22) = w2) ∧ w2.heap.size = w1.heap.size + 1 ∧ Below w1.heap.size w1 w2 ∧ w2.cell? ⟨w1.heap.size, 0, none⟩ = some (.slice la l.length lc) :=
    ⟨_, rfl, by simp, (Below.refl _ _).alloc (Nat.le_refl _) _, by simp [go_sem]⟩
  have hb2 := HB1.out.trans (hb12.mono HB1.out.size)
  have HB2 := veil hb2
  have HR : Hid (Calls Try.prog 13 #[.slice la l.length lc, fndN w1.heap.size] w2 fun e w' => ∃ rB, e = .returned (.slice (some ⟨rB, 0, none⟩) l.length l.length) ∧ BRow w2 rB l.length rd w') := by
    have := rounds_any S l la lc w1.heap.size w2 (fun b hb => Nat.lt_of_lt_of_le (hS b hb) hb2.size) (ndSl_keep (Keeps.below hb2 hS) HL.out) q0 (by omega)
    rw [HRd.out] at this
    exact this
  have HQ0 := veil q0
  have HS2 := veil hs2
  rw [HW2.out]
  clear hb2 hb12 q0 hs2 HW2
  go_wp2_with fail
  refine HR.out.mono ?_
  rintro e w3 ⟨rB, rfl, hrow⟩
  have hb3 := HB2.out.trans (hrow.below.mono HB2.out.size)
  have HB3 := veil hb3
  have HRow : Hid (BRow w rB l.length rd w3) := ⟨hb3, Nat.le_trans HB2.out.size hrow.low, hrow.top, hrow.arr⟩
  have HLo : Hid (w1.heap.size < rB) := by have h1 := hrow.low; have h2 := HS2.out; show _ < _; omega
  have HQ3 : Hid (w3.cell? ⟨w1.heap.size, 0, none⟩ = some (.slice la l.length lc)) := (hrow.below.cell (World.block_lt_of_cell? _ _ HQ0.out)).trans HQ0.out
  have HN : Hid (Calls Try.prog 14 #[.slice la l.length lc, .slice (some ⟨rB, 0, none⟩) l.length l.length] w3 fun e w' => ∃ u, e = .returned u ∧ SlAt (fun b => w3.heap.size ≤ b ∧ b < w'.heap.size) (StrAt w') 1 (namL l rd l.length) u ∧ Below w3.heap.size w3 w') :=
    namesOf_any S l la lc rB rd w3 (fun b hb => Nat.lt_of_lt_of_le (hS b hb) hb3.size) (ndSl_keep (Keeps.below hb3 hS) HL.out) (by omega) HX.out (fun i hi => (hrow.arr i hi).1)
  clear hrow hb3 HR HQ0 HS2
  go_wp2_with fail
  refine HN.out.mono ?_
  rintro e w5 ⟨vl, rfl, hlast, hb5⟩
  have hord : OrdAt w w5 rB l.length (fun i => rd i || inL [] i) w5 :=
    ⟨(HRow.out.keep hb5).same (fun i _ => by simp [inL]), Nat.lt_of_lt_of_le HRow.out.top hb5.size, Nat.le_trans HB3.out.size hb5.size, Nat.le_refl _, fun _ _ _ => rfl⟩
  have HOrd := veil hord
  have HQ5 : Hid (w5.cell? ⟨w1.heap.size, 0, none⟩ = some (.slice la l.length lc)) := (hb5.cell (World.block_lt_of_cell? _ _ HQ3.out)).trans HQ3.out
  have HLast : Hid (∀ W, OrdAt w w5 rB l.length (fun i => rd i || inL (ordAll l.length (grE l) rd) i) W → SlAt (fun b => w.heap.size ≤ b ∧ b < W.heap.size) (StrAt W) 1 (namL l rd l.length) vl) := fun W hW => by
    refine strSl_keep ⟨fun b hb => hW.rest b hb.2 (by have := HRow.out.top; omega), fun b hb => ⟨Nat.le_trans HB3.out.size hb.1, Nat.lt_of_lt_of_le hb.2 hW.size⟩⟩ hlast
  have HNext : Hid (∀ out W, OrdAt w w5 rB l.length (fun i => rd i || inL out i) W → Calls Try.prog 15 #[.slice la l.length lc, .slice (some ⟨rB, 0, none⟩) l.length l.length, fndN w1.heap.size] W fun e w' => e = .returned (.int .i64 (nxtI l.length (grE l) (fun i => rd i || inL out i))) ∧ Below W.heap.size W w') := fun out W hW => by
    have hne : w1.heap.size ≠ rB := by have := HLo.out; show _ ≠ _; omega
    have hlt := World.block_lt_of_cell? _ _ HQ5.out
    refine next_any S l la lc w1.heap.size rB _ W (fun b hb => Nat.lt_of_lt_of_le (hS b hb) hW.row.below.size) (ndSl_keep (Keeps.below hW.row.below hS) HL.out) ?_ (fun i hi => (hW.row.arr i hi).1)
    rw [← HQ5.out]
    unfold World.cell?
    rw [hW.rest _ hlt hne]
  have HTs : Hid (∀ out, ∀ s ∈ told l out, s.size ≤ maxLen) := told_size HX.out
  have hb5s := hord.low5
  obtain ⟨q1, q2, q3, rfl⟩ := hlast.slice
  clear hlast hb5 hord HN HQ3 HRow HB3 HQ5 HLo
  go_wp2_with fail
  refine (HNext.out [] _ HOrd.out).mono ?_
  rintro e w6 ⟨rfl, hb6⟩
  have HOrd6 := veil (HOrd.out.near (hb6.mono (Nat.le_refl _)))
  clear hb6 HOrd HB1 HB2
  go_wp2_with fail
  go_loopw [9, 10] (fun v i wr => ∃ (out : List Nat) (f : Nat), i = .int .i64 (nxtI l.length (grE l) (fun i => rd i || inL out i)) ∧ outs (inL out) l.length ≤ f ∧ out.length + outs (inL out) l.length ≤ l.length ∧ ordP l.length (grE l) rd f out = ordAll l.length (grE l) rd ∧ wr.ownsRow w5.heap.size 9 1 v (told l out).length (txVals (told l out)) ∧ OrdAt w w5 rB l.length (fun i => rd i || inL out i) wr) (fun v _ _ => l.length - slLen v)
  case atStart => exact ⟨[], l.length, rfl, outs_n _, by simpa using outs_n _, rfl, World.ownsRow_nil _ _ _ _, HOrd6.out⟩
  case round =>
    clear HOrd6
    obtain ⟨out, f, rfl, hof, hol, hop, hown, hord⟩ := hrel
    have HOwn := veil hown
    have HOrd := veil hord
    have HOp := veil hop
    have hlen5 := ownsTx_len hown
    rw [told_len] at hlen5
    clear hown hop hord
    cases hx : nxt l.length (grE l) rd out with
    | none =>
      rw [nxtI_nothing hx]
      have hoe : out = ordAll l.length (grE l) rd := by rw [← HOp.out, ord_none hx]
      subst hoe
      have HF : Hid (SlAt (fun b => w.heap.size ≤ b ∧ b < wr.heap.size) (StrAt wr) 1 (told l (ordAll l.length (grE l) rd)) u9) := (tx_row HOwn.out (by rw [told_len]; unfold maxLen; omega) (HTs.out _)).imp (fun b hb => ⟨Nat.le_trans HOrd.out.low5 hb.1, hb.2⟩) (fun _ _ _ _ _ h => h)
      have HLs := veil (HLast.out _ HOrd.out)
      have HB := veil HOrd.out.row.below
      clear HNext HLast HOwn HOrd HOp hx
      go_wp2_with fail
      go_ret3
      rw [HE'.out]
      exact ⟨_, _, rfl, HF.out, HLs.out, HB.out⟩
    | some i =>
      obtain ⟨hin, hrdy⟩ := nxt_some hx
      obtain ⟨hri, hio⟩ := rdy_not hrdy
      rw [nxtI_some hx]
      have ht := outs_told hin hio
      obtain ⟨f, rfl⟩ : ∃ f', f = f' + 1 := ⟨f - 1, by omega⟩
      have HOp' : Hid (ordP l.length (grE l) rd f (i :: out) = ordAll l.length (grE l) rd) := by
        show _ = _
        rw [← HOp.out, ord_some hx]
      have hin' : (i : Int) < (l.length : Int) := by omega
      have hi0 : (0 : Int) ≤ (i : Int) := by omega
      obtain ⟨_, b, off, rfl, hb, hat⟩ := HL.out.at hin
      obtain ⟨a1, cap1, c0, m0, c1, hu⟩ := nd_cells hat
      have hbk := hS b hb
      have hrow := HOrd.out.row
      obtain ⟨g0, gf⟩ := hrow.arr i hin
      have hbne : rB ≠ b := by have := hrow.low; omega
      have hput := HOrd.out.put (q := fun k => rd k || inL (i :: out) k) hin (fun k hk hne => by
        show (rd k || inL (i :: out) k) = (rd k || inL out k)
        rw [inL_cons]
        simp [hne])
      have hqi : (rd i || inL (i :: out) i) = true := by rw [inL_cons]; simp
      rw [hqi] at hput
      have HTold : Hid (told l (i :: out) = told l out ++ [l[i].name]) := by show _ = _; rw [told_cons, nmN_at hin]
      have hxk := HX.out _ (List.getElem_mem hin)
      have hown2 : (wr.setCell ⟨rB, i, none⟩ (.bool true)).ownsRow w5.heap.size 9 1 u9 (told l out).length (txVals (told l out)) := ownsRow_setCell_below HOwn.out (a := ⟨rB, i, none⟩) HOrd.out.in5 _
      obtain ⟨wy, HWy, hyput, hyown, d0, d1⟩ : ∃ wy, Hid (wr.setCell ⟨rB, i, none⟩ (.bool true) = wy) ∧ OrdAt w w5 rB l.length (fun k => rd k || inL (i :: out) k) wy ∧ wy.ownsRow w5.heap.size 9 1 u9 (told l out).length (txVals (told l out)) ∧ wy.cell? ⟨b, off + i * 2, none⟩ = some (.string l[i].name) ∧ wy.cell? ⟨b, off + i * 2 + 1, none⟩ = some (.slice a1 l[i].uses.length cap1) :=
        ⟨_, rfl, hput, hown2, by
          rw [World.cell?_setCell_far _ _ _ _ hbne]
          exact (hrow.below.cell (p := ⟨b, off + i * 2, none⟩) hbk).trans c0, by
          rw [World.cell?_setCell_far _ _ _ _ hbne]
          exact (hrow.below.cell (p := ⟨b, off + i * 2 + 1, none⟩) hbk).trans c1⟩
      have HYp := veil hyput
      have HYo := veil hyown
      have hby : b < wy.heap.size := Nat.lt_of_lt_of_le hbk hyput.row.below.size
      have hcl : (told l out).length = out.length := told_len l out
      have hri' : (fun i => rd i || inL out i) i = false := by show (rd i || inL out i) = false; rw [hri, hio]; rfl
      rw [show (rd i || inL out i) = false from hri'] at g0
      have HN2 := veil (HNext.out (i :: out))
      have HC2 : Hid (∀ W, Calls Try.prog 16 #[.agg #[.string l[i].name, .slice a1 l[i].uses.length cap1]] W fun e w' => e = .returned (.string l[i].name) ∧ Below W.heap.size W w') := fun W => nameOf_any _ _ _ _ W hxk
      clear HOp hx hrdy hri hio HL hat hu m0 c0 c1 hbk hrow hput hqi hown2 hyput hyown HNext HOwn HOrd hri' HX hb hbne HLast HTs HE' HRd
      generalize l[i].name = x at *
      generalize l[i].uses.length = un at *
      go_wp2_with (first | (rw [HWy.out]; clear HWy) | fail)
      refine (HC2.out _).mono ?_
      rintro e w6 ⟨rfl, hb6⟩
      have HO6 := veil (ownsTx_later HYo.out hb6)
      have HP6 := veil (HYp.out.near (hb6.mono HYp.out.size))
      have hsz6 := HP6.out.size
      have HGr7 : Hid (∀ w', (w6.alloc (.cells #[.string x] 9)).grownBy w' (Value.ownBlock u9) → OrdAt w w5 rB l.length (fun k => rd k || inL (i :: out) k) w') := fun w' hg => by
        have hrow := ownsTx_at HO6.out
        exact HP6.out.near (((Below.refl w5.heap.size w6).alloc hsz6 _).grown hg (by simp; omega) (fun q hq => hrow q hq))
      clear hb6 HC2 HYo HYp d0 d1
      generalize htl : told l out = tl at *
      clear htl
      go_wp2_with (at_builtin; refine wpList_append_lies _ rfl _ _ 26 rfl w5.heap.size 9 i0 (.string ⟨#[]⟩) 1 16 Try.underlying26 HI0.out HZ0.out HZ1.out HZ2.out rfl (by decide) _ _ _ rfl (HO6.out.alloc _) ⟨w6.heap.size, 0, none⟩ 1 1 [.string x] rfl rfl (tx_new _ _) (tx_one _) (by decide) (by unfold maxLen; omega) (by omega) (by simp; omega) (w6.heap.size + 1) (by simp) ?_)
      intro g7 cap7 w7 hown7 hgrow7 hat7 hlt7
      all_goals
        have HP7 := veil (HGr7.out _ hgrow7)
        have HO7 : Hid (w7.ownsRow w5.heap.size 9 1 (.slice (some ⟨g7, 0, none⟩) (out.length + 1) cap7) (told l (i :: out)).length (txVals (told l (i :: out)))) := by
          show w7.ownsRow _ _ _ _ _ _
          rw [HTold.out, tx_snoc, List.length_append, hcl]
          exact hown7
        clear hown7 hgrow7 hat7 hlt7
        go_wp2_with fail
        refine (HN2.out _ HP7.out).mono ?_
        rintro e w8 ⟨rfl, hb8⟩
        have HP8 := veil (HP7.out.near (hb8.mono HP7.out.size))
        have HO8 := veil (ownsTx_later HO7.out hb8)
        clear hb8 HN2
        go_wp2_with fail
        exact ⟨⟨i :: out, f, rfl, by omega, by simp only [List.length_cons]; omega, HOp'.out, HO8.out, HP8.out⟩, by rw [hlen5]; simp only [slLen]; omega⟩

end Go.Proofs.Ytedpiamfpbdhoaa
