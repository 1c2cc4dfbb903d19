/- What the reader's skip, word, sign, take, ident and name answer, at every reader: whether such a token is next, and where they leave it. -/
import Derived.Test.YtpamadnckijfkabGreatDoorReadSpec
import Derived.Test.YtpamadnckijfkabGreatDoorIdent
import Derived.Test.YtpamadnckijfkabGreatDoorNums
import Derived.Deep.QuietTactic
import Derived.BigQuiet
import Derived.Lib.Builder
namespace Go.Proofs.YtpamadnckijfkabGreatDoor
open Go.RowKit
set_option maxRecDepth 100000

/-- the tokens of a line, below block B. -/
def ToksAt (B : Nat) (w : World) (tv : Value) (l : Toks) : Prop :=
  (l.length ≤ 200 ∧ ∀ t ∈ l, t.1 = 2 → numOk t.2 = true) ∧ ((l = [] ∧ ∃ a cap, tv = .slice a 0 cap) ∨
  ∃ b off cap, tv = .slice (some ⟨b, off, none⟩) l.length cap ∧ b < B ∧
    ∀ i (hi : i < l.length), w.cell? ⟨b, off + i * 2, none⟩ = some (.int .i64 l[i].1) ∧ w.cell? ⟨b, off + i * 2 + 1, none⟩ = some (.string l[i].2) ∧ l[i].2.size ≤ maxLen)

theorem ToksAt.keep {B : Nat} {w w' : World} {tv : Value} {l : Toks} (h : ToksAt B w tv l) (hb : Below B w w') : ToksAt B w' tv l := by
  refine ⟨h.1, h.2.imp_right ?_⟩
  rintro ⟨b, off, cap, rfl, hbB, hc⟩
  exact ⟨b, off, cap, rfl, hbB, fun i hi => ⟨(hb.cell (by exact hbB)).trans (hc i hi).1, (hb.cell (by exact hbB)).trans (hc i hi).2.1, (hc i hi).2.2⟩⟩

/-- the reader in block B is at place i of these tokens. -/
def RdAt (B : Nat) (l : Toks) (i : Nat) (w : World) : Prop := ∃ tv, w.heap[B]? = some (.cells #[tv, .int .i64 i] 78 (0, 0)) ∧ ToksAt B w tv l ∧ i ≤ l.length

/-- from w to w' nothing has turned but block B. -/
structure Moved (B : Nat) (w w' : World) : Prop where
  below : Below B w w'
  above : ∀ c, B < c → c < w.heap.size → w'.heap[c]? = w.heap[c]?

theorem Moved.refl (B : Nat) (w : World) : Moved B w w := ⟨Below.refl _ _, fun _ _ _ => rfl⟩
theorem Moved.trans {B : Nat} {w w' w'' : World} (h : Moved B w w') (h' : Moved B w' w'') : Moved B w w'' :=
  ⟨h.below.trans h'.below, fun c hc hlt => (h'.above c hc (Nat.lt_of_lt_of_le hlt h.below.size)).trans (h.above c hc hlt)⟩
theorem Moved.of_below {B : Nat} {w w' : World} (h : Below w.heap.size w w') (hB : B ≤ w.heap.size) : Moved B w w' := ⟨h.mono hB, fun c _ hlt => h.block c hlt⟩
theorem Moved.drew {B : Nat} {w w' : World} (h : Moved B w w') : Moved B w w'.drew := ⟨h.below.drew, h.above⟩
theorem Moved.drewN {B : Nat} {w w' : World} (h : Moved B w w') (n : Nat) : Moved B w (w'.drewN n) := ⟨⟨h.below.os, h.below.tape, h.below.output, h.below.size, h.below.block⟩, h.above⟩
theorem Moved.alloc {B : Nat} {w w' : World} (h : Moved B w w') (hB : B ≤ w'.heap.size) (o : Obj) : Moved B w (w'.alloc o) := h.trans (Moved.of_below ((Below.refl _ _).alloc (Nat.le_refl _) o) hB)
theorem Moved.set {B : Nat} {w w' : World} (h : Moved B w w') (o : Nat) (u : Value) : Moved B w (w'.setCell ⟨B, o, none⟩ u) :=
  h.trans ⟨(Below.refl B _).setCell (p := ⟨B, o, none⟩) (Nat.le_refl B) u, fun c hc _ => Below.heap_setCell _ _ _ _ (by show c ≠ B; omega)⟩
theorem Moved.cell {B : Nat} {w w' : World} (h : Moved B w w') {c : Nat} (hc : B < c) (hlt : c < w.heap.size) (o : Nat) : w'.cell? ⟨c, o, none⟩ = w.cell? ⟨c, o, none⟩ := World.cell?_of_block (h.above c hc hlt)

theorem rd_lt {B : Nat} {l : Toks} {i : Nat} {w : World} (h : RdAt B l i w) : B < w.heap.size := by
  obtain ⟨tv, hb, _⟩ := h
  rcases Nat.lt_or_ge B w.heap.size with h' | h'
  · exact h'
  · rw [Array.getElem?_eq_none h'] at hb; cases hb

theorem rd_below {B : Nat} {l : Toks} {i : Nat} {w w' : World} (h : RdAt B l i w) (hb : Below w.heap.size w w') : RdAt B l i w' := by
  have hlt := rd_lt h
  obtain ⟨tv, h1, h2, h3⟩ := h
  exact ⟨tv, (hb.block B hlt).trans h1, h2.keep (hb.mono (by omega)), h3⟩

theorem rd_next {B : Nat} {l : Toks} {i : Nat} {tv : Value} {w : World} (h1 : w.heap[B]? = some (.cells #[tv, .int .i64 i] 78 (0, 0))) (h2 : ToksAt B w tv l) (hi : i < l.length) : RdAt B l (i + 1) (w.setCell ⟨B, 1, none⟩ (.int .i64 ((i : Int) + 1))) := by
  refine ⟨tv, ?_, h2.keep ((Below.refl B _).setCell (p := ⟨B, 1, none⟩) (Nat.le_refl B) _), hi⟩
  simp [World.setCell, Array.getElem?_modify, h1]

/-- one further, if so. -/
def adv (b : Bool) (i : Nat) : Nat := if b = true then i + 1 else i

theorem tok_at {l : Toks} {i : Nat} (h : i < l.length) (k : Int) (s : List UInt8) : tokB l i k s = (l[i].1 == k && l[i].2.data.toList == s) := by
  unfold tokB
  rw [List.getElem?_eq_getElem h]
theorem tok_end {l : Toks} {i : Nat} (h : ¬ i < l.length) (k : Int) (s : List UInt8) : tokB l i k s = false := by
  unfold tokB
  rw [List.getElem?_eq_none (by omega)]

set_option maxHeartbeats 2000000 in
set_option maxRecDepth 100000 in
theorem skip_any (B : Nat) (l : Toks) (i : Nat) (k : Int) (s : ByteArray) (w : World) (h : RdAt B l i w) :
    Calls Tryz.prog 65 #[.pointer (some ⟨B, 0, none⟩), .agg #[.int .i64 k, .string s]] w fun e w' => e = .returned (.bool (tokB l i k s.data.toList)) ∧ RdAt B l (adv (tokB l i k s.data.toList) i) w' ∧ Moved B w w' := by
  have hlt := rd_lt h
  have HA := veil (rd_below h ((Below.refl _ _).alloc (Nat.le_refl _) (.cells #[.int .i64 k, .string s] 90)))
  have HM : Hid (Moved B w (w.alloc (.cells #[.int .i64 k, .string s] 90))) := Moved.of_below ((Below.refl _ _).alloc (Nat.le_refl _) _) (by omega)
  obtain ⟨tv, hb, ⟨⟨h200, hgood⟩, htk⟩, hi⟩ := h
  have b0 : w.cell? ⟨B, 0, none⟩ = some tv := by rw [Lib.cell_of_heap hb]; rfl
  have b1 : w.cell? ⟨B, 1, none⟩ = some (.int .i64 i) := by rw [Lib.cell_of_heap hb]; rfl
  have hfz : w.frozen? ⟨B, 1, none⟩ = false := Lib.frozen_of_heap hb 1
  by_cases hlt2 : i < l.length
  · rcases htk with ⟨rfl, _⟩ | ⟨b, off, cap, rfl, hbB, hcell⟩
    · simp at hlt2
    obtain ⟨c0, c1, hsz⟩ := hcell i hlt2
    have HT := veil (tok_at hlt2 k s.data.toList)
    have hne : ((i : Int) == (l.length : Int)) = false := beq_eq_false_iff_ne.2 (by omega)
    have hlt3 : (i : Int) < (l.length : Int) := by omega
    have HBk := veil hb
    have HTk : Hid (ToksAt B w (.slice (some ⟨b, off, none⟩) l.length cap) l) := ⟨⟨h200, hgood⟩, Or.inr ⟨b, off, cap, rfl, hbB, hcell⟩⟩
    clear hcell hb hgood
    generalize l[i].1 = kd at *
    generalize l[i].2 = tx at *
    have hbn : b < w.heap.size := by omega
    have HN1 := veil (rd_next (w := w.alloc (.cells #[.int .i64 k, .string s] 90)) ((Below.heap_alloc _ _ _ hlt).trans HBk.out) (HTk.out.keep HM.out.below) hlt2)
    have HT2 := veil (text_eq tx s.data.toList)
    have HT3 : Hid ((tx.toList == s.toList) = (tx.data.toList == s.data.toList)) := by show _ = _; rw [Lib.toList_data, Lib.toList_data]
    have hbn2 : b ≠ w.heap.size := by omega
    have hBn : B ≠ w.heap.size := by omega
    cases hk : (kd == k) <;> cases hs : (tx.toList == s.toList)
    case true.true =>
      have HR : Hid (tokB l i k s.data.toList = true) := by show _ = _; rw [HT.out, hk, ← HT3.out, hs]; rfl
      rw [HR.out]
      go_enter Tryz.func65, Tryz.ntmps65
      go_wp2_with fail
      go_quiet (fail)
      all_goals
        go_wp2_with fail
        go_ret
        exact ⟨rfl, HN1.out, (HM.out.drewN nq).set 1 _⟩
    all_goals
      have HR : Hid (tokB l i k s.data.toList = false) := by show _ = _; rw [HT.out, hk, ← HT3.out, hs]; rfl
      rw [HR.out]
      go_enter Tryz.func65, Tryz.ntmps65
      go_wp2_with fail
      go_quiet (fail)
      all_goals
        go_wp2_with fail
        go_ret
        exact ⟨rfl, HA.out, HM.out.drewN nq⟩
  · have hie : i = l.length := by omega
    have hne : ((i : Int) == (l.length : Int)) = true := by rw [hie]; simp
    have HR := veil (tok_end hlt2 k s.data.toList)
    rw [HR.out]
    obtain ⟨a, cap, rfl⟩ : ∃ a cap, tv = .slice a l.length cap := by
      rcases htk with ⟨rfl, a, cap, rfl⟩ | ⟨b, off, cap, rfl, _, _⟩
      · exact ⟨a, cap, rfl⟩
      · exact ⟨_, cap, rfl⟩
    clear htk hie hlt2 hb hgood
    go_enter Tryz.func65, Tryz.ntmps65
    go_wp2_with fail
    go_quiet (fail)
    all_goals
      go_wp2_with fail
      go_ret
      exact ⟨rfl, HA.out, HM.out.drewN nq⟩

theorem word_next (B : Nat) (l : Toks) (i : Nat) (s : ByteArray) (w : World) (h : RdAt B l i w) :
    Calls Tryz.prog 30 #[.pointer (some ⟨B, 0, none⟩), .string s] w fun e w' => e = .returned (.bool (wrd l i s.data.toList)) ∧ RdAt B l (adv (wrd l i s.data.toList) i) w' ∧ Moved B w w' := by
  have HH := veil h
  clear h
  go_enter Tryz.func30, Tryz.ntmps30
  go_wp2_with fail
  refine (skip_any B l i 1 s _ HH.out).mono ?_
  rintro e w' ⟨rfl, q1, q2⟩
  go_wp2_with fail
  go_ret
  exact ⟨rfl, q1, q2⟩

theorem sign_next (B : Nat) (l : Toks) (i : Nat) (s : ByteArray) (w : World) (h : RdAt B l i w) :
    Calls Tryz.prog 67 #[.pointer (some ⟨B, 0, none⟩), .string s] w fun e w' => e = .returned (.bool (sgn l i s.data.toList)) ∧ RdAt B l (adv (sgn l i s.data.toList) i) w' ∧ Moved B w w' := by
  have HH := veil h
  clear h
  go_enter Tryz.func67, Tryz.ntmps67
  go_wp2_with fail
  refine (skip_any B l i 4 s _ HH.out).mono ?_
  rintro e w' ⟨rfl, q1, q2⟩
  go_wp2_with fail
  go_ret
  exact ⟨rfl, q1, q2⟩

theorem take_at {l : Toks} {i : Nat} (h : i < l.length) (k : Int) : takeAt l i k = if l[i].1 = k then some l[i].2 else none := by
  unfold takeAt
  rw [List.getElem?_eq_getElem h]
theorem take_end {l : Toks} {i : Nat} (h : ¬ i < l.length) (k : Int) : takeAt l i k = none := by
  unfold takeAt
  rw [List.getElem?_eq_none (by omega)]

set_option maxHeartbeats 2000000 in
set_option maxRecDepth 100000 in
theorem take_any (B : Nat) (l : Toks) (i : Nat) (k : Int) (w : World) (h : RdAt B l i w) :
    Calls Tryz.prog 105 #[.pointer (some ⟨B, 0, none⟩), .int .i64 k] w fun e w' => Moved B w w' ∧
      ((takeAt l i k = none ∧ e = .returned (.tuple #[.string ⟨#[]⟩, .bool false]) ∧ RdAt B l i w') ∨ ∃ t, takeAt l i k = some t ∧ t.size ≤ maxLen ∧ e = .returned (.tuple #[.string t, .bool true]) ∧ RdAt B l (i + 1) w') := by
  have hlt := rd_lt h
  have HA := veil h
  obtain ⟨tv, hb, ⟨⟨h200, hgood⟩, htk⟩, hi⟩ := h
  have b0 : w.cell? ⟨B, 0, none⟩ = some tv := by rw [Lib.cell_of_heap hb]; rfl
  have b1 : w.cell? ⟨B, 1, none⟩ = some (.int .i64 i) := by rw [Lib.cell_of_heap hb]; rfl
  have hfz : w.frozen? ⟨B, 1, none⟩ = false := Lib.frozen_of_heap hb 1
  by_cases hlt2 : i < l.length
  · rcases htk with ⟨rfl, _⟩ | ⟨b, off, cap, rfl, hbB, hcell⟩
    · simp at hlt2
    obtain ⟨c0, c1, hsz⟩ := hcell i hlt2
    have HT := veil (take_at hlt2 k)
    have hne : ((i : Int) == (l.length : Int)) = false := beq_eq_false_iff_ne.2 (by omega)
    have hlt3 : (i : Int) < (l.length : Int) := by omega
    have HBk := veil hb
    have HTk : Hid (ToksAt B w (.slice (some ⟨b, off, none⟩) l.length cap) l) := ⟨⟨h200, hgood⟩, Or.inr ⟨b, off, cap, rfl, hbB, hcell⟩⟩
    have HN1 := veil (rd_next HBk.out HTk.out hlt2)
    clear hcell hb hgood
    generalize l[i].1 = kd at *
    generalize l[i].2 = tx at *
    by_cases hk : kd = k
    · subst hk
      rw [if_pos rfl] at HT
      have hbn2 : b ≠ B := by omega
      go_enter Tryz.func105, Tryz.ntmps105
      go_wp2_with fail
      go_quiet (fail)
      go_wp2_with fail
      go_quiet (fail)
      go_wp2_with fail
      go_ret2
      exact ⟨(((Moved.refl B w).drewN _).set 1 _).drewN _, Or.inr ⟨tx, HT.out, hsz, rfl, HN1.out⟩⟩
    · have hk' : (kd != k) = true := bne_iff_ne.2 hk
      rw [if_neg hk] at HT
      clear hk
      go_enter Tryz.func105, Tryz.ntmps105
      go_wp2_with fail
      go_quiet (fail)
      go_wp2_with fail
      go_ret2
      exact ⟨(Moved.refl B w).drewN _, Or.inl ⟨HT.out, rfl, HA.out⟩⟩
  · have hie : i = l.length := by omega
    have hne : ((i : Int) == (l.length : Int)) = true := by rw [hie]; simp
    have HR := veil (take_end hlt2 k)
    obtain ⟨a, cap, rfl⟩ : ∃ a cap, tv = .slice a l.length cap := by
      rcases htk with ⟨rfl, a, cap, rfl⟩ | ⟨b, off, cap, rfl, _, _⟩
      · exact ⟨a, cap, rfl⟩
      · exact ⟨_, cap, rfl⟩
    clear htk hie hlt2 hb hgood
    go_enter Tryz.func105, Tryz.ntmps105
    go_wp2_with fail
    go_quiet (fail)
    go_wp2_with fail
    go_ret2
    exact ⟨(Moved.refl B w).drewN _, Or.inl ⟨HR.out, rfl, HA.out⟩⟩

theorem rd_num {B : Nat} {l : Toks} {i : Nat} {w : World} (h : RdAt B l i w) {j : Nat} {t : ByteArray} (ht : takeAt l j 2 = some t) : numOk t = true := by
  obtain ⟨tv, _, ⟨⟨_, hgood⟩, _⟩, _⟩ := h
  unfold takeAt at ht
  split at ht
  · rename_i u hu
    split at ht
    · rename_i hk
      injection ht with ht
      subst ht
      exact hgood u (List.mem_of_getElem? hu) hk
    · cases ht
  · cases ht

end Go.Proofs.YtpamadnckijfkabGreatDoor
