/- What graph.nameOf and graph.namesOf answer. -/
import Derived.Test.YtedpiamfpbdhoaaGrNext
import Derived.Test.YtedpiamfpbdhoaaTxRow
import Derived.Test.YtedpiamfpbdhoaaKindX
import Derived.Deep.AppendLies
import Derived.OwnWalk
namespace Go.Proofs.Ytedpiamfpbdhoaa
open Go.RowKit

def nmN (l : List Nd) (i : Nat) : ByteArray := match l[i]? with
  | some d => d.name
  | none => ⟨#[]⟩
theorem nmN_at {l : List Nd} {i : Nat} (h : i < l.length) : nmN l i = l[i].name := by
  unfold nmN; rw [List.getElem?_eq_getElem h]
/-- the names of the first ones that are chosen. -/
def namL (l : List Nd) (p : Nat → Bool) : Nat → List ByteArray
  | 0 => []
  | k + 1 => namL l p k ++ (if p k = true then [nmN l k] else [])
theorem namL_le (l : List Nd) (p : Nat → Bool) : ∀ k, (namL l p k).length ≤ k
  | 0 => Nat.le_refl _
  | k + 1 => by
    have := namL_le l p k
    unfold namL
    rw [List.length_append]
    split <;> simp <;> omega
theorem namL_size {l : List Nd} {p : Nat → Bool} (h : ∀ d ∈ l, d.name.size ≤ maxLen) : ∀ k, ∀ s ∈ namL l p k, s.size ≤ maxLen
  | 0, s, hs => by cases hs
  | k + 1, s, hs => by
    unfold namL at hs
    rcases List.mem_append.1 hs with hs | hs
    · exact namL_size h k s hs
    · split at hs
      · simp at hs
        subst hs
        unfold nmN
        cases hk : l[k]? with
        | none => exact Nat.zero_le _
        | some d => exact h d (List.mem_of_getElem? hk)
      · cases hs

theorem nameOf_any (x : ByteArray) (a : Option Addr) (n cap : Nat) (w : World) (hx : x.size ≤ 281474976710656) : Calls Try.prog 16 #[.agg #[.string x, .slice a n cap]] w fun e w' => e = .returned (.string x) ∧ Below w.heap.size w w' := by
  have HA : Hid (Below w.heap.size w (w.alloc (.cells #[.string x, .slice a n cap] 31))) := (Below.refl _ _).alloc (Nat.le_refl _) _
  go_enter Try.func16, Try.ntmps16
  go_wp2_with fail
  refine (clone_kind x _ hx).mono ?_
  rintro e w1 ⟨rfl, hb⟩
  have HB := veil (HA.out.trans (hb.mono (by simp)))
  clear hb
  go_wp2_with fail
  go_ret
  exact ⟨rfl, HB.out⟩

set_option maxHeartbeats 4000000 in
theorem namesOf_any (S : Nat → Prop) (l : List Nd) (la : Option Addr) (lc rB : Nat) (st : Nat → Bool) (w : World) (hS : ∀ b, S b → b < w.heap.size) (hl : SlAt S (NdAt S w) 2 l (.slice la l.length lc)) (hn : l.length ≤ 1000) (hx : ∀ d ∈ l, d.name.size ≤ 281474976710656) (ha : ∀ i, i < l.length → w.cell? ⟨rB, i, none⟩ = some (.bool (st i))) :
    Calls Try.prog 14 #[.slice la l.length lc, .slice (some ⟨rB, 0, none⟩) l.length l.length] w fun e w' => ∃ u, e = .returned u ∧ SlAt (fun b => w.heap.size ≤ b ∧ b < w'.heap.size) (StrAt w') 1 (namL l st l.length) u ∧ Below w.heap.size w w' := by
  have HL := veil hl
  have HArr := veil ha
  have HX := veil hx
  have HSz : Hid (∀ k, ∀ s ∈ namL l st k, s.size ≤ maxLen) := namL_size (fun d hd => by have := hx d hd; unfold maxLen; omega)
  obtain ⟨i0, hi, hz0, hz1, hz2⟩ := info_parts str_info
  have HI0 := veil hi
  have HZ0 := veil hz0
  have HZ1 := veil hz1
  have HZ2 := veil hz2
  clear hi hz0 hz1 hz2 hl ha hx
  go_enter Try.func14, Try.ntmps14
  go_wp2_with fail
  go_loopw [5, 10] (fun v i wr => ∃ k : Nat, k ≤ l.length ∧ i = .int .i64 k ∧ wr.ownsRow w.heap.size 9 1 v (namL l st k).length (txVals (namL l st k)) ∧ Below w.heap.size w wr) (fun _ i _ => l.length - (intOf i).toNat)
  case atStart => exact ⟨0, Nat.zero_le _, rfl, World.ownsRow_nil _ _ _ _, Below.refl _ _⟩
  case round =>
    obtain ⟨k, hk, rfl, hown, hbl⟩ := hrel
    have HOwn := veil hown
    have HBl := veil hbl
    have hszr := hbl.size
    have hle := namL_le l st k
    by_cases hlt : k < l.length
    · have hlt' : (k : Int) < (l.length : Int) := by omega
      have hk0 : (0 : Int) ≤ (k : Int) := by omega
      obtain ⟨_, b, off, rfl, hb, hat⟩ := HL.out.at hlt
      obtain ⟨a1, cap1, c0, m0, c1, hu⟩ := nd_cells hat
      have hbk := hS b hb
      have d0 := (hbl.cell (p := ⟨b, off + k * 2, none⟩) hbk).trans c0
      have d1 := (hbl.cell (p := ⟨b, off + k * 2 + 1, none⟩) hbk).trans c1
      have g0 := (hbl.cell (World.block_lt_of_cell? _ _ (HArr.out k hlt))).trans (HArr.out k hlt)
      have hbr : b < wr.heap.size := Nat.lt_of_lt_of_le hbk hbl.size
      have hgr := World.block_lt_of_cell? _ _ g0
      have HNx : Hid (namL l st (k + 1) = namL l st k ++ (if st k = true then [l[k].name] else [])) := by show _ = _; rw [namL, nmN_at hlt]
      have hxk := HX.out _ (List.getElem_mem hlt)
      clear c0 c1 m0 hat hu HL HArr HX hbk hb hbl hown
      generalize l[k].name = x at *
      generalize l[k].uses.length = un at *
      cases hst : st k with
      | true =>
        rw [hst] at g0
        have HNx' : Hid (namL l st (k + 1) = namL l st k ++ [x]) := by show _ = _; rw [HNx.out, hst, if_pos rfl]
        have HC : Hid (∀ W, Calls Try.prog 16 #[.agg #[.string x, .slice a1 un cap1]] W fun e w' => e = .returned (.string x) ∧ Below W.heap.size W w') := fun W => nameOf_any x a1 un cap1 W hxk
        have HBx : Hid (∀ o W, Below (wr.alloc o).heap.size (wr.alloc o) W → Below w.heap.size w W ∧ W.ownsRow w.heap.size 9 1 u5 (namL l st k).length (txVals (namL l st k))) := fun o W hW => by
          have h1 := ((Below.refl _ _).alloc (Nat.le_refl _) o).trans (hW.mono (show wr.heap.size ≤ _ by simp))
          exact ⟨HBl.out.trans (h1.mono hszr), ownsTx_later HOwn.out h1⟩
        clear HNx hst HOwn
        generalize hnl : namL l st k = nl at *
        clear hnl
        go_wp2_with fail
        refine (HC.out _).mono ?_
        rintro e w3 ⟨rfl, hb3⟩
        obtain ⟨hb4, ho4⟩ := HBx.out _ _ hb3
        have HB4 := veil hb4
        have HO4 := veil ho4
        have hsz4 := hb4.size
        have HGr5 : Hid (∀ w', (w3.alloc (.cells #[.string x] 9)).grownBy w' (Value.ownBlock u5) → Below w.heap.size w w') := fun w' hg => by
          have hrow := ownsTx_at HO4.out
          exact (HB4.out.alloc (by omega) _).grown hg (by simp; omega) (fun q hq => hrow q hq)
        clear hb3 hb4 ho4 HBx HC
        go_wp2_with (at_builtin; refine wpList_append_lies _ rfl _ _ 26 rfl w.heap.size 9 i0 (.string ⟨#[]⟩) 1 16 Try.underlying26 HI0.out HZ0.out HZ1.out HZ2.out rfl (by decide) _ _ _ rfl (HO4.out.alloc _) ⟨w3.heap.size, 0, none⟩ 1 1 [.string x] rfl rfl (tx_new _ _) (tx_one _) (by decide) (by unfold maxLen; omega) (by omega) (by simp; omega) (w3.heap.size + 1) (by simp) ?_)
        intro g5 cap5 w5 hown5 hgrow5 hat5 hlt5
        all_goals
          have HB5 : Hid (Below w.heap.size w w5) := HGr5.out _ hgrow5
          have HO5 : Hid (w5.ownsRow w.heap.size 9 1 (.slice (some ⟨g5, 0, none⟩) (nl.length + 1) cap5) (namL l st (k + 1)).length (txVals (namL l st (k + 1)))) := by
            show w5.ownsRow _ _ _ _ _ _
            rw [HNx'.out, tx_snoc, List.length_append]
            exact hown5
          clear hown5 hgrow5 hat5 hlt5
          go_wp2_with fail
          exact ⟨⟨k + 1, by omega, by go_num, HO5.out, HB5.out⟩, by simp [intOf]; omega⟩
      | false =>
        rw [hst] at g0
        have HNx' : Hid (namL l st (k + 1) = namL l st k) := by show _ = _; rw [HNx.out, hst, if_neg (by decide), List.append_nil]
        have HBx : Hid (∀ o, Below w.heap.size w (wr.alloc o) ∧ (wr.alloc o).ownsRow w.heap.size 9 1 u5 (namL l st (k + 1)).length (txVals (namL l st (k + 1)))) := fun o => by
          rw [HNx'.out]
          have h1 := (Below.refl wr.heap.size wr).alloc (Nat.le_refl _) o
          exact ⟨HBl.out.trans (h1.mono hszr), ownsTx_later HOwn.out h1⟩
        clear HNx hst HOwn
        go_wp2_with fail
        exact ⟨⟨k + 1, by omega, by go_num, (HBx.out _).2, (HBx.out _).1⟩, by simp [intOf]; omega⟩
    · have hnl : ¬ (k : Int) < (l.length : Int) := by omega
      have hke : k = l.length := by omega
      subst hke
      have HR := veil (tx_row hown (by unfold maxLen; omega) (HSz.out _))
      clear hown HOwn hbl HL HArr HX
      go_wp2_with fail
      go_ret
      exact ⟨_, rfl, HR.out, HBl.out⟩

end Go.Proofs.Ytedpiamfpbdhoaa
