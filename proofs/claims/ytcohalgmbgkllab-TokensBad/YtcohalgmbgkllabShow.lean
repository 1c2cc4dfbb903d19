/- What token.Show and the reference's TokensText answer, at every list of tokens: the error's number, and the texts with a blank between. -/
import Derived.Test.YtcohalgmbgkllabBuild
namespace Go.Proofs.Ytcohalgmbgkllab
open Go.RowKit

theorem tok_small {k : Int} {t : ByteArray} (h : tokFault k t = 0) : t.size ≤ 20 := by
  unfold tokFault at h
  split at h
  · split at h
    · rename_i hk ho
      unfold tokOk at ho
      split at ho
      · have h1 : isIn t.size 1 8 = true := by
          cases e : isIn t.size 1 8 with
          | true => rfl
          | false => rw [wordOk, e] at ho; cases ho
        simp [isIn] at h1
        omega
      · split at ho
        · have h1 : isIn t.size 1 6 = true := by
            cases e : isIn t.size 1 6 with
            | true => rfl
            | false => rw [numOk, e, Bool.false_and, Bool.and_false] at ho; cases ho
          simp [isIn] at h1
          omega
        · split at ho
          · simp only [quoteOk, Bool.and_eq_true, decide_eq_true_eq] at ho
            exact ho.1
          · by_cases h1 : t.size = 1
            · omega
            · rw [sign_many t h1] at ho; cases ho
    · omega
  · omega

theorem faults_all : ∀ (l : List (Int × ByteArray)), faults l = 0 → ∀ j, j < l.length → faultOf (l.getD j (0, .empty)) = 0
  | [], _, j, hj => absurd hj (by simp)
  | t :: r, h, j, hj => by
    by_cases ht : faultOf t = 0
    · have h' : faults r = 0 := by simpa [faults, ht] using h
      cases j with
      | zero => simpa using ht
      | succ j => simpa using faults_all r h' j (by simpa using hj)
    · simp only [faults, if_neg ht] at h
      exact absurd h ht

def writtenL (t : Int × ByteArray) : List UInt8 := if t.1 = 3 then 34 :: (t.2.data.toList ++ [34]) else t.2.data.toList
def showTo (l : List (Int × ByteArray)) : Nat → List UInt8
  | 0 => []
  | k + 1 => (showTo l k ++ (if k = 0 then [] else [32])) ++ writtenL (l.getD k (0, .empty))

def textOf (l : List UInt8) : ByteArray := ⟨l.toArray⟩
theorem textOf_data (t : ByteArray) : textOf t.data.toList = t := by cases t; simp [textOf]
theorem textOf_append (a b : List UInt8) : textOf a ++ textOf b = textOf (a ++ b) := by
  apply ByteArray.ext
  simp [textOf, ByteArray.data_append]
theorem textOf_size (a : List UInt8) : (textOf a).size = a.length := rfl

theorem writtenL_le {t : Int × ByteArray} (h : t.2.size ≤ 20) : (writtenL t).length ≤ 22 := by
  have e : t.2.data.toList.length = t.2.size := (Lib.size_eq t.2).symm
  unfold writtenL
  split
  · simp only [List.length_cons, List.length_append, List.length_nil]; omega
  · omega

theorem showTo_le (l : List (Int × ByteArray)) (h : ∀ j, j < l.length → (l.getD j (0, .empty)).2.size ≤ 20) : ∀ k, k ≤ l.length → (showTo l k).length ≤ 23 * k
  | 0, _ => by simp [showTo]
  | k + 1, hk => by
    have ih := showTo_le l h k (by omega)
    have hw := writtenL_le (h k (by omega))
    simp only [showTo, List.length_append]
    split
    · simp only [List.length_nil]; omega
    · simp only [List.length_cons, List.length_nil]; omega

theorem written_quote (t : ByteArray) : textOf (writtenL (3, t)) = ByteArray.mk #[34] ++ t ++ ByteArray.mk #[34] := by
  have e : writtenL (3, t) = ([34] ++ t.data.toList) ++ [34] := by simp [writtenL]
  rw [e, ← textOf_append, ← textOf_append, textOf_data]
  rfl

set_option maxHeartbeats 400000 in
theorem written_any (k : Int) (t : ByteArray) (ht : t.size ≤ 20) (w : World) :
    Calls Try.prog 20 #[.agg #[.int .i64 k, .string t]] w fun e w' => e = .returned (.string (textOf (writtenL (k, t)))) ∧ Below w.heap.size w w' := by
  by_cases h : k = 3
  · subst h
    have HW := veil (written_quote t)
    go_enter Try.func20, Try.ntmps20
    go_wp2
    go_ret
    exact ⟨by rw [HW.out]; rfl, (Below.refl _ _).alloc (Nat.le_refl _) _⟩
  · have h' : (k == 3) = false := beq_eq_false_iff_ne.2 h
    have HW : Hid (writtenL (k, t) = t.data.toList) := if_neg h
    clear h
    go_enter Try.func20, Try.ntmps20
    go_wp2
    go_ret
    exact ⟨by rw [HW.out, textOf_data]; rfl, (Below.refl _ _).alloc (Nat.le_refl _) _⟩

/-- a builder lies as it lay, where nothing that was there has turned. -/
theorem builder_below {T e : TypeId} {B b : Nat} {bs : List Value} {w w' : World} (h : Lib.IsBuilder T e B b bs w) (hb : Below w.heap.size w w') : Lib.IsBuilder T e B b bs w' := by
  have one : ∀ p, Lib.BuilderAt T e B b p bs w → Lib.BuilderAt T e B b p bs w' := by
    rintro p hp
    have hlt := hp.lt
    obtain ⟨hB, v, hbk, hown, hne⟩ := hp
    refine ⟨hB, v, ?_, ?_, hne⟩
    · rw [hb.block b hlt]; exact hbk
    · obtain ⟨hx, h | ⟨g, cap, cur, hv, hg, hh, h1, h2, h3, h4⟩⟩ := hown
      · exact ⟨hx, Or.inl h⟩
      · refine ⟨hx, Or.inr ⟨g, cap, cur, hv, hg, ?_, h1, h2, h3, h4⟩⟩
        rw [hb.block g ?_]
        · exact hh
        · rcases Nat.lt_or_ge g w.heap.size with h | h
          · exact h
          · rw [Array.getElem?_eq_none h] at hh
            cases hh
  rcases h with h | h
  · exact Or.inl (one _ h)
  · exact Or.inr (one _ h)

theorem builder_new (w : World) (B : Nat) (hB : B ≤ w.heap.size) : Lib.IsBuilder 41 5 B w.heap.size [] (w.alloc (.cells #[.pointer none, .slice none 0 0] 41)) := by
  refine Or.inl ⟨hB, .slice none 0 0, ?_, World.ownsRow_nil _ _ _ _, by simp [Value.ownBlock]⟩
  exact heap_alloc_new w _

theorem byteCells_snoc (a : List UInt8) (s : List UInt8) : Lib.byteCells a ++ Lib.strCells (textOf s) = Lib.byteCells (a ++ s) := by
  simp [Lib.byteCells, Lib.strCells, textOf]
theorem byteCells_blank (a : List UInt8) : Lib.byteCells a ++ [.int .u8 32] = Lib.byteCells (a ++ [32]) := by
  simp [Lib.byteCells]

set_option maxHeartbeats 4000000 in
theorem show_row (b off cap : Nat) (l : List (Int × ByteArray)) (w : World) (hbw : b < w.heap.size) (hl : l.length ≤ 200) (hok : faults l = 0)
    (hcell : ∀ i, i < l.length → w.cell? ⟨b, off + i * 2, none⟩ = some (.int .i64 (l.getD i (0, .empty)).1) ∧ w.cell? ⟨b, off + i * 2 + 1, none⟩ = some (.string (l.getD i (0, .empty)).2) ∧ (l.getD i (0, .empty)).2.size ≤ maxLen) :
    Calls Try.prog 7 #[.slice (some ⟨b, off, none⟩) l.length cap] w fun e w' => e = .returned (.tuple #[.string (textOf (showTo l l.length)), .int .i64 0]) ∧ Below w.heap.size w w' := by
  have hrow : TokRow w (.slice (some ⟨b, off, none⟩) l.length cap) l := Or.inr ⟨b, off, cap, rfl, hbw, by unfold maxLen; omega, hcell⟩
  have HCK := veil (check_any _ l w hrow)
  have h0 : checkAll l = 0 := by unfold checkAll; rw [if_neg (by omega)]; exact hok
  have hsm : ∀ j, j < l.length → (l.getD j (0, .empty)).2.size ≤ 20 := fun j hj => tok_small (faults_all l hok j hj)
  have HLE := veil (showTo_le l hsm)
  have HSM := veil hsm
  have HC := veil hcell
  clear hcell hrow hsm hok
  go_enter Try.func7, Try.ntmps7
  go_wp2_with fail
  refine HCK.out.mono ?_
  rintro e w1 ⟨rfl, hb1⟩
  clear HCK
  rw [h0]
  clear h0
  have hs1 := hb1.size
  have HB1 := veil hb1
  have HNew := veil (builder_new w1 w.heap.size hs1)
  clear hb1
  go_wp2
  go_loopw [15] (fun i wr => ∃ k : Nat, k ≤ l.length ∧ i = .int .i64 k ∧ Lib.IsBuilder 41 5 w.heap.size w1.heap.size (Lib.byteCells (showTo l k)) wr ∧ Below w.heap.size w wr) (fun i _ => l.length - (intOf i).toNat)
  case atStart => exact ⟨0, Nat.zero_le _, rfl, HNew.out, HB1.out.alloc hs1 _⟩
  case round =>
    clear HNew
    obtain ⟨k, hk, rfl, hbd, hbl⟩ := hrel
    have HBd := veil hbd
    clear hbd
    have hbs := hbl.size
    by_cases hlt : k < l.length
    · obtain ⟨c0, c1, _⟩ := HC.out k hlt
      have d0 : wr.cell? ⟨b, off + k * 2, none⟩ = some (.int .i64 (l.getD k (0, .empty)).1) := (hbl.cell (by exact hbw)).trans c0
      have d1 : wr.cell? ⟨b, off + k * 2 + 1, none⟩ = some (.string (l.getD k (0, .empty)).2) := (hbl.cell (by exact hbw)).trans c1
      have hsz := HSM.out k hlt
      have HL0 := veil (HLE.out k (by omega))
      have HST : Hid (showTo l (k + 1) = (showTo l k ++ (if k = 0 then [] else [32])) ++ writtenL ((l.getD k (0, .empty)).1, (l.getD k (0, .empty)).2)) := rfl
      clear c0 c1 HC
      generalize (l.getD k (0, ByteArray.empty)).1 = kd at *
      generalize (l.getD k (0, ByteArray.empty)).2 = tx at *
      have HWL := veil (writtenL_le (t := (kd, tx)) hsz)
      have HB0 := veil (builder_below HBd.out ((Below.refl wr.heap.size wr).alloc (Nat.le_refl _) (.cells #[.int .i64 kd, .string tx] 32)))
      have HL := veil (hbl.alloc hbs (.cells #[.int .i64 kd, .string tx] 32))
      have hnb : wr.heap.size ≠ w1.heap.size := by
        have : w1.heap.size < wr.heap.size := by
          rcases HBd.out with h | h
          · exact h.lt
          · exact h.lt
        omega
      clear HBd hbl
      by_cases hk0 : k = 0
      · have hk' : ¬ (0 : Int) < (k : Int) := by omega
        rw [if_pos hk0, List.append_nil] at HST
        clear hk0
        go_wp2_with fail
        refine (written_any kd tx hsz _).mono ?_
        rintro e w2 ⟨rfl, hb2⟩
        have HB2 := veil (builder_below HB0.out hb2)
        have HL2 := veil (HL.out.trans (hb2.mono (by simp; omega)))
        have hs2 : w.heap.size ≤ w2.heap.size := HL2.out.size
        clear HB0 HL hb2
        go_wp2_with fail
        refine (writeString_any w.heap.size w1.heap.size _ (textOf (writtenL (kd, tx))) w2 HB2.out ?_ hs2).mono ?_
        · rw [Lib.byteCells_length, textOf_size]; have := HL0.out; have := HWL.out; omega
        rintro e w3 ⟨rfl, hb3, hl3, _⟩
        rw [byteCells_snoc, ← HST.out] at hb3
        have HB3 := veil hb3
        have HL3 := veil (HL2.out.trans hl3)
        clear hb3 hl3 HB2 HL2
        go_wp2
        go_roundw
        case rel => exact ⟨k + 1, by omega, by go_num, HB3.out, HL3.out⟩
        case measure => simp [intOf]; omega
      · have hk' : (0 : Int) < (k : Int) := by omega
        rw [if_neg hk0] at HST
        clear hk0
        go_wp2_with fail
        refine (writeByte_any w.heap.size w1.heap.size _ 32 _ HB0.out ?_ (by simp; omega)).mono ?_
        · rw [Lib.byteCells_length]; have := HL0.out; omega
        rintro e w2 ⟨rfl, hb2, hl2, hk2⟩
        rw [byteCells_blank] at hb2
        have hbox := hk2 wr.heap.size #[.int .i64 kd, .string tx] 32 (0, 0) hnb (by decide) (heap_alloc_new wr _)
        have c0 : w2.cell? ⟨wr.heap.size, 0, none⟩ = some (.int .i64 kd) := by rw [World.cell?_of_block hbox]; exact World.cell?_alloc_at _ _ _ _ rfl
        have c1 : w2.cell? ⟨wr.heap.size, 1, none⟩ = some (.string tx) := by rw [World.cell?_of_block hbox]; exact World.cell?_alloc_at _ _ _ _ rfl
        have HB2 := veil hb2
        have HL2 := veil (HL.out.trans hl2)
        have hs2 : w.heap.size ≤ w2.heap.size := HL2.out.size
        clear HB0 HL hb2 hl2 hk2 hbox
        go_wp2_with fail
        refine (written_any kd tx hsz _).mono ?_
        rintro e w3 ⟨rfl, hb3⟩
        have HB3 := veil (builder_below HB2.out hb3)
        have HL3 := veil (HL2.out.trans (hb3.mono hs2))
        have hs3 : w.heap.size ≤ w3.heap.size := HL3.out.size
        clear HB2 HL2 hb3 c0 c1
        go_wp2_with fail
        refine (writeString_any w.heap.size w1.heap.size _ (textOf (writtenL (kd, tx))) w3 HB3.out ?_ hs3).mono ?_
        · rw [Lib.byteCells_length, textOf_size, List.length_append]; have := HL0.out; have := HWL.out; simp only [List.length_cons, List.length_nil]; omega
        rintro e w4 ⟨rfl, hb4, hl4, _⟩
        rw [byteCells_snoc, ← HST.out] at hb4
        have HB4 := veil hb4
        have HL4 := veil (HL3.out.trans hl4)
        clear hb4 hl4 HB3 HL3
        go_wp2
        go_roundw
        case rel => exact ⟨k + 1, by omega, by go_num, HB4.out, HL4.out⟩
        case measure => simp [intOf]; omega
    · have hkl : k = l.length := by omega
      rw [hkl] at HBd
      clear HC hkl
      go_wp2_with fail
      refine (Try.Builder_String_any w.heap.size w1.heap.size (showTo l l.length) _ HBd.out hbs).mono ?_
      rintro e w2 ⟨rfl, hb2⟩
      have HL2 := veil (hbl.trans hb2)
      clear hb2
      go_wp2
      go_ret2
      exact ⟨rfl, HL2.out⟩

def showText (l : List (Int × ByteArray)) : ByteArray := if checkAll l = 0 then textOf (showTo l l.length) else ⟨#[]⟩

theorem checkAll_ok {l : List (Int × ByteArray)} (h : checkAll l = 0) : l.length ≤ 200 ∧ faults l = 0 := by
  unfold checkAll at h
  split at h
  · omega
  · exact ⟨by omega, h⟩

set_option maxHeartbeats 1000000 in
theorem show_any (v : Value) (l : List (Int × ByteArray)) (w : World) (h : TokRow w v l) :
    Calls Try.prog 7 #[v] w fun e w' => e = .returned (.tuple #[.string (showText l), .int .i64 (checkAll l)]) ∧ Below w.heap.size w w' := by
  by_cases h0 : checkAll l = 0
  · have ht : showText l = textOf (showTo l l.length) := if_pos h0
    rw [ht, h0]
    obtain ⟨h200, hok⟩ := checkAll_ok h0
    by_cases hl : l = []
    · subst hl
      obtain ⟨a, cap, rfl⟩ : ∃ a cap, v = .slice a 0 cap := by
        rcases h with ⟨_, a, cap, rfl⟩ | ⟨b, off, cap, rfl, _⟩
        · exact ⟨a, cap, rfl⟩
        · exact ⟨_, cap, rfl⟩
      have HCK := veil (check_any _ [] w h)
      clear h h200 hok ht
      go_enter Try.func7, Try.ntmps7
      go_wp2_with fail
      refine HCK.out.mono ?_
      rintro e w1 ⟨rfl, hb1⟩
      rw [h0]
      have hs1 := hb1.size
      have HNew := veil (builder_new w1 w.heap.size hs1)
      go_wp2
      refine wp_loop_rounds 1 ?_
      rw [rounds_succ]
      go_wp2_with fail
      refine (Try.Builder_String_any w.heap.size w1.heap.size [] _ HNew.out (by simp; omega)).mono ?_
      rintro e w2 ⟨rfl, hb2⟩
      go_wp2
      go_ret2
      exact ⟨rfl, (hb1.alloc hs1 _).trans hb2⟩
    · rcases h with ⟨h, _⟩ | ⟨b, off, cap, rfl, hb, _, hcell⟩
      · exact absurd h hl
      · exact show_row b off cap l w hb h200 hok hcell
  · have HT : Hid (showText l = ⟨#[]⟩) := if_neg h0
    have h1 : (checkAll l != 0) = true := by simp [h0]
    have HCK := veil (check_any _ l w h)
    clear h h0
    go_enter Try.func7, Try.ntmps7
    go_wp2_with fail
    refine HCK.out.mono ?_
    rintro e w1 ⟨rfl, hb1⟩
    go_wp2
    go_ret2
    exact ⟨by rw [HT.out]; rfl, hb1⟩

end Go.Proofs.Ytcohalgmbgkllab
