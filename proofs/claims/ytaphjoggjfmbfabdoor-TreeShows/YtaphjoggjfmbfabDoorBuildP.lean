/- What strings.Builder's WriteString and String, and the printer's write, comma and name do, at a printer that the call itself has made: its bytes grow by what is written; nothing below it turns. -/
import Derived.Test.YtaphjoggjfmbfabDoorShowSpec
import Derived.Test.YtaphjoggjfmbfabDoorIdent
import Derived.WalkKit
import Derived.RegionTactic
import Derived.ChangeAlike
import Derived.Shelf.Strings.Builder1
import Derived.Lib.Builder
import Derived.Lib.AppendStr
namespace Go.Proofs.YtaphjoggjfmbfabDoor
open Go.RowKit

theorem sizeBuilder : (Tryd.prog.info? 35).map (·.size) = some 2 := by kernel_rfl
theorem liesBuilder : liesAt Tryd.prog Tryd.prog.depth 37 (2 / Tryd.prog.cellsOf 37) 0 35 1 = true := by kernel_rfl
theorem infoByte : (Tryd.prog.info? 5).map (fun i => (i.zero, i.size, i.bytes)) = some (some (.int .u8 0), 1, 1) := by kernel_rfl

set_option maxHeartbeats 400000 in
set_option maxRecDepth 100000 in
theorem check_used (b : Nat) (w : World) (h0 : w.cell? ⟨b, 0, none⟩ = some (.pointer (some ⟨b, 0, none⟩))) :
    Calls Tryd.prog 33 #[.pointer (some ⟨b, 0, none⟩)] w fun e w' => e = .returned (.tuple #[]) ∧ w = w' := by
  obtain ⟨j, hj, _⟩ := Option.map_eq_some_iff.1 sizeBuilder
  go_enter Tryd.func33, Tryd.ntmps33
  go_wp2
  rw [Lib.run_neq_ptr_same w _ Tryd.underlying32 hj]
  go_wp2
  go_end0
  exact ⟨rfl, rfl⟩

set_option maxHeartbeats 400000 in
set_option maxRecDepth 100000 in
theorem check_fresh (b : Nat) (w : World) (h0 : w.cell? ⟨b, 0, none⟩ = some (.pointer none)) (hsh : w.shape? b = some (37, 2)) (hfz : w.frozen? ⟨b, 0, none⟩ = false) :
    Calls Tryd.prog 33 #[.pointer (some ⟨b, 0, none⟩)] w fun e w' => e = .returned (.tuple #[]) ∧ w.setCell ⟨b, 0, none⟩ (.pointer (some ⟨b, 0, none⟩)) = w' := by
  obtain ⟨j, hj, hjs⟩ := Option.map_eq_some_iff.1 sizeBuilder
  go_enter Tryd.func33, Tryd.ntmps33
  go_wp2
  rw [Lib.run_to_unsafe w ⟨b, 0, none⟩ Tryd.underlying32 Tryd.underlying82 hj (by rw [hjs]; decide) hsh (Nat.zero_lt_succ 1)]
  simp only [Result.andThen]
  rw [Oper.upon_value]
  go_wp2
  rw [run_callFunc_extern Tryd.func47 (by kernel_rfl) (by kernel_rfl) (by kernel_rfl) (e := Extern.AbiNoEscape.same) (by kernel_rfl), Lib.run_noEscape]
  simp only [Result.andThen]
  rw [Oper.upon_value]
  go_wp2
  rw [Lib.run_from_unsafe w ⟨b, 0, none⟩ Tryd.underlying82 Tryd.underlying32 hj hsh liesBuilder]
  simp only [Result.andThen]
  rw [Oper.upon_value]
  go_wp2
  go_end0
  exact ⟨rfl, rfl⟩

theorem copyCheck_any (B b : Nat) (bs : List Value) (w : World) (h : Lib.IsBuilder 37 5 B b bs w) :
    Calls Tryd.prog 33 #[.pointer (some ⟨b, 0, none⟩)] w fun e w' => e = .returned (.tuple #[]) ∧ Lib.BuilderAt 37 5 B b (.pointer (some ⟨b, 0, none⟩)) bs w' ∧ Below B w w' ∧ w'.heap.size = w.heap.size ∧ ∀ c, c ≠ b → w'.heap[c]? = w.heap[c]? := by
  rcases h with h | h
  · refine (check_fresh b w h.cell0 h.shape h.frozen0).mono ?_
    rintro e w' ⟨rfl, rfl⟩
    exact ⟨rfl, h.used _, (Below.refl B w).setCell (p := ⟨b, 0, none⟩) h.1 _, by simp, fun c hc => Below.heap_setCell _ _ _ _ hc⟩
  · refine (check_used b w h.cell0).mono ?_
    rintro e w' ⟨rfl, rfl⟩
    exact ⟨rfl, h, Below.refl B _, rfl, fun _ _ => rfl⟩

/-- the blocks that a writing method leaves alone: all that are neither the builder's own nor a row of bytes. -/
def KeptBut (b : Nat) (w w' : World) : Prop := ∀ c x t fz, c ≠ b → t ≠ 5 → w.heap[c]? = some (.cells x t fz) → w'.heap[c]? = w.heap[c]?

theorem own_other {w : World} {B : Nat} {v : Value} {n : Nat} {bs : List Value} (hown : w.ownsRow B 5 1 v n bs) {c : Nat} {x : Array Value} {t : TypeId} {fz : Nat × Nat} (ht : t ≠ 5) (hc : w.heap[c]? = some (.cells x t fz)) : some c ≠ v.ownBlock := by
  intro h
  obtain ⟨_, ⟨hv, _⟩ | ⟨g, cap, cur, hv, hg, hh, _⟩⟩ := hown
  · rw [hv] at h
    cases h
  · rw [hv] at h
    have e : c = g := by simpa [Value.ownBlock] using h
    rw [e, hh] at hc
    injection hc with hc
    injection hc with _ hc _
    exact ht hc.symm

theorem lt_of_block {w : World} {c : Nat} {o : Obj} (h : w.heap[c]? = some o) : c < w.heap.size := by
  rcases Nat.lt_or_ge c w.heap.size with h' | h'
  · exact h'
  · rw [Array.getElem?_eq_none h'] at h
    cases h

/-- behind an append to the buffer of a builder: the builder's own two cells are as they were; the buffer may be stored. -/
theorem behind_append {B b : Nat} {v : Value} {w1 w2 : World} {n : Nat} {bs : List Value} (hbk : w1.heap[b]? = some (.cells #[.pointer (some ⟨b, 0, none⟩), v] 37 (0, 0))) (hown : w1.ownsRow B 5 1 v n bs)
    (hne : v.ownBlock ≠ some b) (hgrow : w1.grownBy w2 v.ownBlock) :
    w2.heap[b]? = some (.cells #[.pointer (some ⟨b, 0, none⟩), v] 37 (0, 0)) ∧ w2.cell? ⟨b, 0, none⟩ = some (.pointer (some ⟨b, 0, none⟩)) ∧ w2.cell? ⟨b, 1, none⟩ = some v ∧ w2.frozen? ⟨b, 1, none⟩ = false ∧ ∀ k, v.ownBlock = some k → B ≤ k := by
  have hlt : b < w1.heap.size := by
    rcases Nat.lt_or_ge b w1.heap.size with h' | h'
    · exact h'
    · simp [Array.getElem?_eq_none h'] at hbk
  have hb2 : w2.heap[b]? = some (.cells #[.pointer (some ⟨b, 0, none⟩), v] 37 (0, 0)) := by
    rw [hgrow.block b hlt (fun e => hne e.symm)]
    exact hbk
  exact ⟨hb2, by rw [Lib.cell_of_heap hb2]; rfl, by rw [Lib.cell_of_heap hb2]; rfl, Lib.frozen_of_heap hb2 1, fun k hk => (hown.lt k hk).1⟩

set_option maxHeartbeats 1000000 in
theorem writeString_any (B b : Nat) (bs : List Value) (s : ByteArray) (w : World) (h : Lib.IsBuilder 37 5 B b bs w) (hlen : bs.length + s.size ≤ 140737488355328) (hBw : B ≤ w.heap.size) :
    Calls Tryd.prog 20 #[.pointer (some ⟨b, 0, none⟩), .string s] w fun e w' =>
      e = .returned (.tuple #[.int .i64 s.size, .nilIface]) ∧ Lib.IsBuilder 37 5 B b (bs ++ Lib.strCells s) w' ∧ Below B w w' ∧ KeptBut b w w' := by
  obtain ⟨i0, hi, hz0, hz1, hz2⟩ := info_parts infoByte
  go_enter Tryd.func20, Tryd.ntmps20
  go_wp2_with (go_at_call 33; refine (copyCheck_any B b bs _ h).mono ?_)
  rintro e w1 ⟨rfl, ⟨hB, v, hbk, hown, hne⟩, hb1, hsz1, hk1⟩
  have HK1 := veil hk1
  have HZ1 := veil hsz1
  clear hk1 hsz1
  have hs1 := hb1.size
  have c0 : w1.cell? ⟨b, 0, none⟩ = some (.pointer (some ⟨b, 0, none⟩)) := by rw [Lib.cell_of_heap hbk]; rfl
  have c1 : w1.cell? ⟨b, 1, none⟩ = some v := by rw [Lib.cell_of_heap hbk]; rfl
  go_wp2_with (at_builtin; refine Lib.wpList_append_own_string _ rfl _ _ 33 9 rfl B 5 i0 Tryd.underlying33 Tryd.underlying9 hi hz0 hz1 hz2 _ _ _ rfl hown s rfl ?c3 ?c4 ?c5 ?_)
  case c3 => unfold maxLen; omega
  case c4 => omega
  case c5 => omega
  intro v' w2 hown' hgrow _
  obtain ⟨hb2, d0, d1, f1, hrow⟩ := behind_append hbk hown hne hgrow
  obtain ⟨ao, n', cap, rfl⟩ : ∃ ao n' cap, v' = .slice ao n' cap := by
    rcases hown'.2 with ⟨hv, _⟩ | ⟨g, cap, cur, hv, _⟩
    · exact ⟨_, _, _, hv⟩
    · exact ⟨_, _, _, hv⟩
  go_wp2
  go_ret2
  refine ⟨rfl, Or.inr ?_, ?_, ?_⟩
  · exact Lib.BuilderAt.put (T := 37) (e := 5) hB hb2 (bs' := bs ++ Lib.strCells s) (by simpa [Lib.strCells_length] using hown') (by decide)
  · exact (hb1.grown hgrow (by omega) hrow).setCell (p := ⟨b, 1, none⟩) hB _
  · intro c x t fz hc ht hx
    have h1 := HK1.out c hc
    have hx1 := h1.trans hx
    rw [Below.heap_setCell _ _ _ _ hc, hgrow.block c (lt_of_block hx1) (own_other hown ht hx1), h1]


theorem builder_below {T e : TypeId} {B b : Nat} {bs : List Value} {w w' : World} (h : Lib.IsBuilder T e B b bs w) (hb : Below w.heap.size w w') : Lib.IsBuilder T e B b bs w' := by
  have one : ∀ p, Lib.BuilderAt T e B b p bs w → Lib.BuilderAt T e B b p bs w' := by
    rintro p hp
    have hlt := hp.lt
    obtain ⟨hB, v, hbk, hown, hne⟩ := hp
    refine ⟨hB, v, ?_, ?_, hne⟩
    · rw [hb.block b hlt]; exact hbk
    · obtain ⟨hx, h | ⟨g, cap, cur, hv, hg, hh, h1, h2, h3, h4⟩⟩ := hown
      · exact ⟨hx, Or.inl h⟩
      · refine ⟨hx, Or.inr ⟨g, cap, cur, hv, hg, ?_, h1, h2, h3, h4⟩⟩
        rw [hb.block g (lt_of_block hh)]
        exact hh
  rcases h with h | h
  · exact Or.inl (one _ h)
  · exact Or.inr (one _ h)

theorem builder_lt {T e : TypeId} {B b : Nat} {bs : List Value} {w : World} (h : Lib.IsBuilder T e B b bs w) : B ≤ b ∧ b < w.heap.size := by
  rcases h with h | h
  · exact ⟨h.1, h.lt⟩
  · exact ⟨h.1, h.lt⟩

def textOf (l : List UInt8) : ByteArray := ⟨l.toArray⟩
theorem textOf_data (t : ByteArray) : textOf t.data.toList = t := by cases t; simp [textOf]
theorem textOf_append (a b : List UInt8) : textOf a ++ textOf b = textOf (a ++ b) := by
  apply ByteArray.ext
  simp [textOf, ByteArray.data_append]
theorem textOf_size (a : List UInt8) : (textOf a).size = a.length := rfl
theorem byteCells_snoc (a : List UInt8) (s : ByteArray) : Lib.byteCells a ++ Lib.strCells s = Lib.byteCells (a ++ s.data.toList) := by
  simp [Lib.byteCells, Lib.strCells]

/-- the printer b has written these bytes. -/
def Wrote (B b : Nat) (l : List UInt8) (w : World) : Prop := Lib.IsBuilder 37 5 B b (Lib.byteCells l) w

theorem Wrote.below {B b : Nat} {l : List UInt8} {w w' : World} (h : Wrote B b l w) (hb : Below w.heap.size w w') : Wrote B b l w' := builder_below h hb

/-- from w to w' nothing has turned but the printer b and rows of bytes from B on. -/
structure Went (B b : Nat) (w w' : World) : Prop where
  below : Below B w w'
  kept : KeptBut b w w'

theorem Went.refl (B b : Nat) (w : World) : Went B b w w := ⟨Below.refl _ _, fun _ _ _ _ _ _ _ => rfl⟩
theorem Went.trans {B b : Nat} {w w' w'' : World} (h : Went B b w w') (h' : Went B b w' w'') : Went B b w w'' :=
  ⟨h.below.trans h'.below, fun c x t fz hc ht hx => (h'.kept c x t fz hc ht ((h.kept c x t fz hc ht hx).trans hx)).trans (h.kept c x t fz hc ht hx)⟩
theorem Went.of_below {B b : Nat} {w w' : World} (h : Below w.heap.size w w') (hB : B ≤ w.heap.size) : Went B b w w' := ⟨h.mono hB, fun c _ _ _ _ _ hx => h.block c (lt_of_block hx)⟩
theorem Went.alloc {B b : Nat} {w w' : World} (h : Went B b w w') (hB : B ≤ w'.heap.size) (o : Obj) : Went B b w (w'.alloc o) := h.trans (Went.of_below ((Below.refl _ _).alloc (Nat.le_refl _) o) hB)
/-- a box that was there reads as it did. -/
theorem Went.cell {B b : Nat} {w w' : World} (h : Went B b w w') {c : Nat} {x : Array Value} {t : TypeId} {fz : Nat × Nat} (hx : w.heap[c]? = some (.cells x t fz)) (hc : c ≠ b) (ht : t ≠ 5) (o : Nat) : w'.cell? ⟨c, o, none⟩ = x[o]? := by
  rw [World.cell?_of_block (h.kept c x t fz hc ht hx), Lib.cell_of_heap hx]

/-- the strings of a row, one behind the other. -/
def joined (ss : List ByteArray) : Nat → List UInt8
  | 0 => []
  | k + 1 => joined ss k ++ (ss[k]?).elim [] (fun s => s.data.toList)

theorem joined_le (ss : List ByteArray) : ∀ k j, k ≤ j → (joined ss k).length ≤ (joined ss j).length
  | k, 0, h => by have : k = 0 := by omega
                  subst this; exact Nat.le_refl _
  | k, j + 1, h => by
    by_cases e : k = j + 1
    · subst e; exact Nat.le_refl _
    · have := joined_le ss k j (by omega)
      simp only [joined, List.length_append]; omega

set_option maxHeartbeats 2000000 in
theorem write_any (B b r : Nat) (l : List UInt8) (ss : List ByteArray) (w : World) (h : Wrote B b l w) (hr : w.heap[r]? = some (.cells (ss.map Value.string).toArray 9 (0, 0))) (hrb : r ≠ b) (hn : ss.length < 100)
    (hlen : l.length + (joined ss ss.length).length ≤ 140737488355328) :
    Calls Tryd.prog 7 #[.pointer (some ⟨b, 0, none⟩), .slice (some ⟨r, 0, none⟩) ss.length ss.length] w fun e w' => e = .returned (.tuple #[]) ∧ Wrote B b (l ++ joined ss ss.length) w' ∧ Went B b w w' := by
  have HH := veil h
  have HR := veil hr
  have hrw := lt_of_block hr
  clear h hr
  go_enter Tryd.func7, Tryd.ntmps7
  go_wp2_with fail
  go_loopw [8] (fun i wr => ∃ k : Nat, k ≤ ss.length ∧ i = .int .i64 k ∧ Wrote B b (l ++ joined ss k) wr ∧ Went B b w wr) (fun i _ => ss.length - (intOf i).toNat)
  case atStart => exact ⟨0, Nat.zero_le _, rfl, by simpa [joined] using HH.out, Went.refl _ _ _⟩
  case round =>
    obtain ⟨k, hk, rfl, hwr, hwe⟩ := hrel
    have HW := veil hwr
    have HE := veil hwe
    clear hwr hwe
    by_cases hlt : k < ss.length
    · have c0 : wr.cell? ⟨r, k, none⟩ = some (.string ss[k]) := by
        rw [HE.out.cell HR.out hrb (by decide)]
        simp [hlt]
      have HJ : Hid (joined ss (k + 1) = joined ss k ++ ss[k].data.toList) := by show _ = _; rw [joined, List.getElem?_eq_getElem hlt]; rfl
      have HL := veil (joined_le ss (k + 1) ss.length hlt)
      generalize ss[k] = sk at *
      go_wp2_with fail
      refine (writeString_any B b _ sk wr HW.out ?_ ?_).mono ?_
      · have h1 := HL.out
        rw [HJ.out] at h1
        have h2 : sk.data.toList.length = sk.size := rfl
        rw [Lib.byteCells_length, List.length_append]
        rw [List.length_append] at h1
        omega
      · have := builder_lt HW.out
        omega
      rintro e w' ⟨rfl, hb', hl', hk'⟩
      rw [byteCells_snoc, List.append_assoc, ← HJ.out] at hb'
      have HW' : Hid (Wrote B b (l ++ joined ss (k + 1)) w') := hb'
      have HE' : Hid (Went B b w w') := HE.out.trans ⟨hl', hk'⟩
      clear hb' hl' hk'
      go_wp2_with fail
      exact ⟨⟨k + 1, by omega, by go_num, HW'.out, HE'.out⟩, by simp [intOf]; omega⟩
    · have hkl : k = ss.length := by omega
      subst hkl
      go_wp2_with fail
      go_end0
      exact ⟨rfl, HW.out, HE.out⟩

/-- .. where the row is new. -/
theorem write_new (B b : Nat) (l : List UInt8) (ss : List ByteArray) (w : World) (vs : Array Value) (n r : Nat) (hr : r = w.heap.size) (hvs : vs = (ss.map Value.string).toArray) (hn0 : n = ss.length) (out : List UInt8) (h : Wrote B b l w) (hn : ss.length < 100) (hout : joined ss ss.length = out)
    (hlen : l.length + out.length ≤ 140737488355328) :
    Calls Tryd.prog 7 #[.pointer (some ⟨b, 0, none⟩), .slice (some ⟨r, 0, none⟩) n n] (w.alloc (.cells vs 9)) fun e w' => e = .returned (.tuple #[]) ∧ Wrote B b (l ++ out) w' ∧ Went B b w w' := by
  subst hvs hn0 hout hr
  have hlt := builder_lt h
  refine (write_any B b w.heap.size l ss _ (h.below ((Below.refl _ _).alloc (Nat.le_refl _) _)) (heap_alloc_new w _) (by omega) hn hlen).mono ?_
  rintro e w' ⟨rfl, h1, h2⟩
  exact ⟨rfl, h1, (Went.of_below ((Below.refl _ _).alloc (Nat.le_refl _) _) (by omega)).trans h2⟩

set_option maxHeartbeats 400000 in
theorem comma_any (B b k : Nat) (l : List UInt8) (w : World) (h : Wrote B b l w) (hlen : k ≠ 0 → l.length + 2 ≤ 140737488355328) :
    Calls Tryd.prog 22 #[.pointer (some ⟨b, 0, none⟩), .int .i64 k] w fun e w' => e = .returned (.tuple #[]) ∧ Wrote B b (l ++ if k = 0 then [] else [44, 32]) w' ∧ Went B b w w' := by
  have HH := veil h
  clear h
  by_cases hk : k = 0
  · have hk' : ¬ (0 : Int) < (k : Int) := by omega
    rw [if_pos hk, List.append_nil]
    clear hk
    go_enter Tryd.func22, Tryd.ntmps22
    go_wp2_with fail
    go_end0
    exact ⟨rfl, HH.out, Went.refl _ _ _⟩
  · have hk' : (0 : Int) < (k : Int) := by omega
    have hlen := hlen hk
    rw [if_neg hk]
    clear hk
    go_enter Tryd.func22, Tryd.ntmps22
    go_wp2_with fail
    refine (write_new B b l [⟨#[44, 32]⟩] w _ _ _ (by simp) rfl rfl [44, 32] HH.out (by decide) rfl hlen).mono ?_
    rintro e w' ⟨rfl, h1, h2⟩
    go_wp2_with fail
    go_end0
    exact ⟨rfl, h1, h2⟩

set_option maxHeartbeats 400000 in
theorem name_any (B b : Nat) (o n : ByteArray) (l : List UInt8) (w : World) (h : Wrote B b l w) (hlen : l.length + (nameShown o n).length ≤ 140737488355328) :
    Calls Tryd.prog 21 #[.pointer (some ⟨b, 0, none⟩), .string o, .string n] w fun e w' => e = .returned (.tuple #[]) ∧ Wrote B b (l ++ nameShown o n) w' ∧ Went B b w w' := by
  have HH := veil h
  clear h
  have HT := veil (text_eq o [])
  cases ho : (o.toList == [])
  · have hs : nameShown o n = o.data.toList ++ ([46] ++ n.data.toList) := if_neg (by rw [noneB, ← HT.out, ho]; simp)
    rw [hs] at hlen ⊢
    simp only [List.length_append, List.length_cons, List.length_nil] at hlen
    clear hs HT
    go_enter Tryd.func21, Tryd.ntmps21
    go_wp2_with fail
    refine (write_new B b l [o, ⟨#[46]⟩] w _ _ _ (by simp) rfl rfl (o.data.toList ++ [46]) HH.out (by simp) (by simp [joined]) (by simp only [List.length_append, List.length_cons, List.length_nil]; omega)).mono ?_
    rintro e w1 ⟨rfl, h1, h2⟩
    have HW1 := veil h1
    have HE1 := veil h2
    clear h1 h2
    go_wp2_with fail
    refine (write_new B b _ [n] w1 _ _ _ (by simp) rfl rfl n.data.toList HW1.out (by simp) (by simp [joined]) (by simp only [List.length_append, List.length_cons, List.length_nil]; omega)).mono ?_
    rintro e w2 ⟨rfl, h1, h2⟩
    go_wp2_with fail
    go_end0
    exact ⟨rfl, by simpa [List.append_assoc] using h1, HE1.out.trans h2⟩
  · have hs : nameShown o n = n.data.toList := if_pos (by rw [noneB, ← HT.out, ho])
    rw [hs] at hlen ⊢
    clear hs HT
    go_enter Tryd.func21, Tryd.ntmps21
    go_wp2_with fail
    refine (write_new B b l [n] w _ _ _ (by simp) rfl rfl n.data.toList HH.out (by simp) (by simp [joined]) hlen).mono ?_
    rintro e w2 ⟨rfl, h1, h2⟩
    go_wp2_with fail
    go_end0
    exact ⟨rfl, h1, h2⟩

end Go.Proofs.YtaphjoggjfmbfabDoor
