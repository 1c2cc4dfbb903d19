/- What the reference's ident answers. -/
import Derived.Test.YtpamadnckijfkabGreatDoorEyeOne
namespace Go.Proofs.YtpamadnckijfkabGreatDoor
open Go.RowKit
set_option maxRecDepth 100000

/-- an ident is read, or something is wrong. -/
def IdentR (B : Nat) (l : Toks) (i : Nat) (e d : Int) (w : World) (r : Ending) (w' : World) : Prop := Moved B w w' ∧ ∃ t i', r = .returned (.string t) ∧ t.size ≤ maxLen ∧
  ((e = 0 ∧ identAt l i = some t ∧ EyeAt B l (i + 1) 0 d w') ∨ ((e ≠ 0 ∨ identAt l i = none) ∧ EyeAt B l i' (firstOf e 4) d w'))

set_option maxHeartbeats 2000000 in
/-- behind a token that is no ident. -/
theorem ident_no (B : Nat) (l : Toks) (i i1 : Nat) (e d kd : Int) (tx : ByteArray) (hsz : tx.size ≤ maxLen) (w : World)
    (h1 : Calls Tryz.prog 45 #[.pointer (some ⟨B, 0, none⟩)] w fun r w' => r = .returned (.agg #[.int .i64 kd, .string tx]) ∧ EyeAt B l i1 e d w' ∧ Moved B w w') (hB : B < w.heap.size)
    (hn : e ≠ 0 ∨ identAt l i = none) (hk : (kd != 1) = true ∨ (kd = 1 ∧ identOk tx = false)) :
    Calls Tryz.prog 46 #[.pointer (some ⟨B, 0, none⟩)] w (IdentR B l i e d w) := by
  have HO := veil h1
  have HN := veil hn
  clear h1 hn
  rcases hk with hk | ⟨rfl, hid⟩
  · go_enter Tryz.func46, Tryz.ntmps46
    go_wp2_with fail
    refine HO.out.mono ?_
    rintro r w1 ⟨rfl, q1, q2⟩
    have HQ1 := veil (ey_alloc q1 (.cells #[.int .i64 kd, .string tx] 90))
    have HQ2 := veil (q2.trans (Moved.of_below ((Below.refl _ _).alloc (Nat.le_refl _) (.cells #[.int .i64 kd, .string tx] 90)) (by have := q2.below.size; omega)))
    have hs1 := q2.below.size
    clear q1 q2 HO
    go_wp2_with fail
    refine (bad_eye B l _ e d 4 _ HQ1.out).mono ?_
    rintro r w2 ⟨rfl, q1, q2⟩
    have c1 : w2.cell? ⟨w1.heap.size, 1, none⟩ = some (.string tx) := (q2.cell (by omega) (by simp) 1).trans (World.cell?_alloc_at _ _ _ _ rfl)
    have HQ3 := veil q1
    have HQ4 := veil (HQ2.out.trans q2)
    clear q1 q2
    go_wp2_with fail
    go_ret
    exact ⟨HQ4.out, tx, _, rfl, hsz, Or.inr ⟨HN.out, HQ3.out⟩⟩
  · go_enter Tryz.func46, Tryz.ntmps46
    go_wp2_with fail
    refine HO.out.mono ?_
    rintro r w1 ⟨rfl, q1, q2⟩
    have HQ1 := veil (ey_alloc q1 (.cells #[.int .i64 1, .string tx] 90))
    have HQ2 := veil (q2.trans (Moved.of_below ((Below.refl _ _).alloc (Nat.le_refl _) (.cells #[.int .i64 1, .string tx] 90)) (by have := q2.below.size; omega)))
    have hs1 := q2.below.size
    clear q1 q2 HO
    go_wp2_with fail
    refine (nameMay_any tx hsz _).mono ?_
    rintro r w2 ⟨rfl, hbe⟩
    have hb : Below (w1.alloc (.cells #[.int .i64 1, .string tx] 90)).heap.size (w1.alloc (.cells #[.int .i64 1, .string tx] 90)) w2 := hbe ▸ Below.refl _ _
    clear hbe
    rw [hid]
    have HB := veil hb
    clear hb
    have c0 : w2.cell? ⟨w1.heap.size, 1, none⟩ = some (.string tx) := (HB.out.cell (p := ⟨w1.heap.size, 1, none⟩) (by simp)).trans (World.cell?_alloc_at _ _ _ _ rfl)
    have hs2 : w1.heap.size < w2.heap.size := by have := HB.out.size; simp at this; omega
    have HQ3 := veil (ey_below HQ1.out HB.out)
    have HQ4 := veil (HQ2.out.trans (Moved.of_below HB.out (by simp; omega)))
    go_wp2_with fail
    refine (bad_eye B l _ e d 4 _ HQ3.out).mono ?_
    rintro r w3 ⟨rfl, q1, q2⟩
    have c1 : w3.cell? ⟨w1.heap.size, 1, none⟩ = some (.string tx) := (q2.cell (by omega) (by omega) 1).trans c0
    have HQ5 := veil q1
    have HQ6 := veil (HQ4.out.trans q2)
    clear q1 q2 c0
    go_wp2_with fail
    go_ret
    exact ⟨HQ6.out, tx, _, rfl, hsz, Or.inr ⟨HN.out, HQ5.out⟩⟩

set_option maxHeartbeats 2000000 in
theorem ident_yes (B : Nat) (l : Toks) (i : Nat) (d : Int) (tx : ByteArray) (hsz : tx.size ≤ maxLen) (w : World)
    (h1 : Calls Tryz.prog 45 #[.pointer (some ⟨B, 0, none⟩)] w fun r w' => r = .returned (.agg #[.int .i64 1, .string tx]) ∧ EyeAt B l (i + 1) 0 d w' ∧ Moved B w w') (hB : B < w.heap.size)
    (hn : identAt l i = some tx) (hid : identOk tx = true) :
    Calls Tryz.prog 46 #[.pointer (some ⟨B, 0, none⟩)] w (IdentR B l i 0 d w) := by
  have HO := veil h1
  have HN := veil hn
  clear h1 hn
  go_enter Tryz.func46, Tryz.ntmps46
  go_wp2_with fail
  refine HO.out.mono ?_
  rintro r w1 ⟨rfl, q1, q2⟩
  have HQ1 := veil (ey_alloc q1 (.cells #[.int .i64 1, .string tx] 90))
  have HQ2 := veil (q2.trans (Moved.of_below ((Below.refl _ _).alloc (Nat.le_refl _) (.cells #[.int .i64 1, .string tx] 90)) (by have := q2.below.size; omega)))
  have hs1 := q2.below.size
  clear q1 q2 HO
  go_wp2_with fail
  refine (nameMay_any tx hsz _).mono ?_
  rintro r w2 ⟨rfl, hbe⟩
  have hb : Below (w1.alloc (.cells #[.int .i64 1, .string tx] 90)).heap.size (w1.alloc (.cells #[.int .i64 1, .string tx] 90)) w2 := hbe ▸ Below.refl _ _
  clear hbe
  rw [hid]
  have HB := veil hb
  clear hb
  have c0 : w2.cell? ⟨w1.heap.size, 1, none⟩ = some (.string tx) := (HB.out.cell (p := ⟨w1.heap.size, 1, none⟩) (by simp)).trans (World.cell?_alloc_at _ _ _ _ rfl)
  have HQ3 := veil (ey_below HQ1.out HB.out)
  have HQ4 := veil (HQ2.out.trans (Moved.of_below HB.out (by simp; omega)))
  go_wp2_with fail
  go_ret
  exact ⟨HQ4.out, tx, i, rfl, hsz, Or.inl ⟨rfl, HN.out, HQ3.out⟩⟩

theorem ident_eye (B : Nat) (l : Toks) (i : Nat) (e d : Int) (w : World) (h : EyeAt B l i e d w) :
    Calls Tryz.prog 46 #[.pointer (some ⟨B, 0, none⟩)] w (IdentR B l i e d w) := by
  have hlt := ey_lt h
  by_cases hc : e ≠ 0 ∨ ¬ i < l.length
  · refine ident_no B l i i e d 0 ⟨#[]⟩ (Nat.zero_le _) w (one_none B l i e d w h hc) hlt ?_ (Or.inl rfl)
    rcases hc with h | h
    · exact Or.inl h
    · right
      unfold identAt
      rw [take_end h]
  · have he : e = 0 := Classical.byContradiction fun h => hc (Or.inl h)
    have hi : i < l.length := Classical.byContradiction fun h => hc (Or.inr h)
    subst he
    obtain ⟨ta, tcap, c0, c1, c2, c3, f1, f2, f3, hil, h200, htok⟩ := ey_cells h
    obtain ⟨b, off, rfl, hbB, t0, t1, hsz⟩ := htok hi
    have h1 := one_some B l i d w h hi
    by_cases hk : l[i].1 = 1
    · cases hid : identOk l[i].2
      · refine ident_no B l i (i + 1) 0 d _ _ hsz w h1 hlt (Or.inr ?_) (Or.inr ⟨hk, hid⟩)
        unfold identAt
        rw [take_at hi, if_pos hk]
        simp [hid]
      · rw [hk] at h1
        refine ident_yes B l i d _ hsz w h1 hlt ?_ hid
        unfold identAt
        rw [take_at hi, if_pos hk]
        simp [hid]
    · refine ident_no B l i (i + 1) 0 d _ _ hsz w h1 hlt (Or.inr ?_) (Or.inl (bne_iff_ne.2 hk))
      unfold identAt
      rw [take_at hi, if_neg hk]

end Go.Proofs.YtpamadnckijfkabGreatDoor
