/- What the reference's kind answers: joined. -/
import Derived.Test.YtpamadnckijfkabGreatDoorEyeKind7
import Derived.Test.YtpamadnckijfkabGreatDoorEyeKind5
import Derived.Test.YtpamadnckijfkabGreatDoorEyeKind3
namespace Go.Proofs.YtpamadnckijfkabGreatDoor
open Go.RowKit
set_option maxRecDepth 100000

theorem tokB_of {l : Toks} {i : Nat} (h : i < l.length) (k : Int) (s : List UInt8) : tokB l i k s = (l[i].1 == k && l[i].2.data.toList == s) := by
  unfold tokB; rw [List.getElem?_eq_getElem h]
theorem takeAt_of {l : Toks} {i : Nat} (h : i < l.length) (k : Int) : takeAt l i k = if l[i].1 = k then some l[i].2 else none := by
  unfold takeAt; rw [List.getElem?_eq_getElem h]
theorem tokB_out {l : Toks} {i : Nat} (h : ¬ i < l.length) (k : Int) (s : List UInt8) : tokB l i k s = false := by
  unfold tokB; rw [List.getElem?_eq_none (by omega)]
theorem takeAt_out {l : Toks} {i : Nat} (h : ¬ i < l.length) (k : Int) : takeAt l i k = none := by
  unfold takeAt; rw [List.getElem?_eq_none (by omega)]

theorem kind_eye (B : Nat) (l : Toks) : ∀ f i d, d + f = 40 → ∀ w, EyeAt B l i 0 ((d : Nat) : Int) w → Calls Tryz.prog 48 #[.pointer (some ⟨B, 0, none⟩)] w (KindR B l i d f w) := by
  intro f
  induction f with
  | zero =>
    intro i d hd w h
    refine (kind_skip B l i 0 1 d (by omega) w h (by rw [if_pos (by omega)]; rfl) (by decide)).mono ?_
    rintro r w' ⟨rfl, hE, hM⟩
    exact ⟨hM, _, _, _, _, _, _, rfl, Or.inr ⟨1, i, by unfold pTy; rfl, by decide, hE⟩⟩
  | succ f ih =>
    intro i d hd w h
    have hd4 : d < 40 := by omega
    cases hs : sgn l i [91] with
    | true =>
      have hlt : i < l.length := by
        rcases Nat.lt_or_ge i l.length with h' | h'
        · exact h'
        · rw [sgn, tokB_out (by omega)] at hs; cases hs
      have hk : l[i].1 = 4 := by
        rw [sgn, tokB_of hlt] at hs
        simp only [Bool.and_eq_true, beq_iff_eq] at hs
        exact hs.1
      have hw : ∀ s, wrd l i s = false := fun s => by rw [wrd, tokB_of hlt, hk]; rfl
      have hstep : pTy l (f + 1) i = (match pTy l f (i + 1) with
          | .bad e => .bad e
          | .ok t j => if sgn l j [93] = true then .ok (.mk 3 emptyText emptyText [t]) (j + 1) else .bad 4) := by
        rw [pTy, hw, hw, if_neg (by simp), if_neg (by simp), if_pos hs]; rfl
      exact kind_list B l i d f hd4 w h hs (fun W hW => ih (i + 1) (d + 1) (by omega) W hW) (fun e he => by rw [hstep, he]) (fun t j ht => by rw [hstep, ht])
    | false =>
      by_cases hlt : i < l.length
      · have hsz : l[i].2.size ≤ maxLen := by
          obtain ⟨ta, tcap, _, _, _, _, _, _, _, _, _, htok⟩ := ey_cells h
          obtain ⟨_, _, _, _, _, _, hz⟩ := htok hlt
          exact hz
        have hone := fun W (hW : EyeAt B l i 0 ((d + 1 : Nat) : Int) W) => one_some B l i _ W hW hlt
        have hstep : pTy l (f + 1) i = if wrd l i [105, 110, 116] = true then .ok (.mk 1 emptyText emptyText []) (i + 1)
            else if wrd l i [116, 101, 120, 116] = true then .ok (.mk 2 emptyText emptyText []) (i + 1)
            else match nameAt l i with
              | .bad e => .bad e
              | .ok x j => .ok (.mk 4 x.1 x.2 []) j := by
          rw [pTy, hs]; rfl
        by_cases hk : l[i].1 = 1
        · rw [hk] at hone
          have hw : ∀ s, wrd l i s = (l[i].2.toList == s) := fun s => by rw [wrd, tokB_of hlt, hk, Lib.toList_data]; simp
          rw [hw, hw] at hstep
          have hid : identAt l i = if identOk l[i].2 = true then some l[i].2 else none := by
            unfold identAt; rw [takeAt_of hlt, if_pos hk]
          cases hi : (l[i].2.toList == [105, 110, 116]) with
          | true => exact kind_int B l i d f hd4 _ w h hs hone hi (by rw [hstep, hi]; rfl)
          | false =>
            cases ht : (l[i].2.toList == [116, 101, 120, 116]) with
            | true => exact kind_text B l i d f hd4 _ w h hs hone hi ht (by rw [hstep, hi, ht]; rfl)
            | false =>
              rw [hi, ht, if_neg (by simp), if_neg (by simp)] at hstep
              cases hio : identOk l[i].2 with
              | false =>
                rw [hio, if_neg (by simp)] at hid
                exact kind_word B l i d f hd4 _ hsz hi ht w h hs hone hio (by rw [hstep, nameAt, hid])
              | true =>
                rw [hio, if_pos rfl] at hid
                cases hdot : sgn l (i + 1) [46] with
                | false => exact kind_name B l i d f hd4 _ hsz hi ht w h hs hone hio hdot (by rw [hstep, nameAt, hid]; simp [hdot])
                | true =>
                  refine kind_of B l i d f hd4 _ hsz hi ht w h hs hone hio hdot (fun m hm => ?_) (fun hm => ?_)
                  · rw [hstep, nameAt, hid]; simp [hdot, hm]
                  · rw [hstep, nameAt, hid]; simp [hdot, hm]
        · have hw : ∀ s, wrd l i s = false := fun s => by rw [wrd, tokB_of hlt]; simp [hk]
          refine kind_no B l i (i + 1) d f hd4 _ _ w h hs hone (by simpa using hk) ?_
          rw [hstep, hw, hw, if_neg (by simp), if_neg (by simp), nameAt, identAt, takeAt_of hlt, if_neg hk]
      · have hone := fun W (hW : EyeAt B l i 0 ((d + 1 : Nat) : Int) W) => one_none B l i 0 _ W hW (Or.inr hlt)
        refine kind_no B l i i d f hd4 _ _ w h hs hone rfl ?_
        rw [pTy, hs, wrd, wrd, tokB_out hlt, tokB_out hlt, if_neg (by simp), if_neg (by simp), if_neg (by simp), nameAt, identAt, takeAt_out hlt]

end Go.Proofs.YtpamadnckijfkabGreatDoor
