/- What is read lies ahead: plain facts on where the readings end. -/
import Derived.Test.YtpamadnckijfkabGreatDoorReadSpec
namespace Go.Proofs.YtpamadnckijfkabGreatDoor
open Go.RowKit
set_option maxRecDepth 100000

theorem nameAt_adv {l : Toks} {i j : Nat} {x : ByteArray × ByteArray} (h : nameAt l i = .ok x j) : i ≤ j := by
  unfold nameAt at h
  split at h
  · cases h
  · split at h
    · split at h
      · cases h
      · injection h with _ h; omega
    · injection h with _ h; omega

theorem pList_adv {α : Type} {sub : Nat → Res α} {l : Toks} {fin : List UInt8} (hs : ∀ i x j, sub i = .ok x j → i ≤ j) : ∀ (n : Nat) (acc : List α) (i j : Nat) (r : List α), pList sub l fin n acc i = .ok r j → i ≤ j
  | 0, _, _, _, _, h => by rw [pList] at h; cases h
  | n + 1, acc, i, j, r, h => by
    rw [pList] at h
    split at h
    · cases h
    · rename_i x k hk
      have := hs i x k hk
      split at h
      · have := pList_adv hs n _ _ _ _ h
        omega
      · split at h
        · injection h with _ h; omega
        · cases h

theorem pCall_adv {sub : Nat → Res Ex} {l : Toks} (hs : ∀ i x j, sub i = .ok x j → i ≤ j) {i j : Nat} {x : Ex} (h : pCall sub l i = .ok x j) : i ≤ j := by
  unfold pCall at h
  split at h
  · cases h
  · rename_i y k hk
    have := nameAt_adv hk
    split at h
    · split at h
      · injection h with _ h; omega
      · split at h
        · cases h
        · rename_i hl
          have := pList_adv hs _ _ _ _ _ hl
          injection h with _ h; omega
    · split at h
      · injection h with _ h; omega
      · cases h

theorem pHead_adv {sub : Nat → Res Ex} {l : Toks} (hs : ∀ i x j, sub i = .ok x j → i ≤ j) {i j : Nat} {x : Ex} (h : pHead sub l i = .ok x j) : i ≤ j := by
  unfold pHead at h
  split at h
  · split at h
    · cases h
    · rename_i hk
      have := hs _ _ _ hk
      split at h
      · injection h with _ h; omega
      · cases h
  · split at h
    · split at h
      · cases h
      · rename_i hl
        have := pList_adv hs _ _ _ _ _ hl
        injection h with _ h; omega
    · split at h
      · injection h with _ h; omega
      · split at h
        · injection h with _ h; omega
        · exact pCall_adv hs h

theorem pPlaces_adv {sub : Nat → Res Ex} {l : Toks} (hs : ∀ i x j, sub i = .ok x j → i ≤ j) : ∀ (n : Nat) (x y : Ex) (i j : Nat), pPlaces sub l n x i = .ok y j → i ≤ j
  | 0, _, _, _, _, h => by rw [pPlaces] at h; cases h
  | n + 1, x, y, i, j, h => by
    rw [pPlaces] at h
    split at h
    · split at h
      · cases h
      · rename_i hk
        have := hs _ _ _ hk
        split at h
        · have := pPlaces_adv hs n _ _ _ _ h
          omega
        · cases h
    · injection h with _ h; omega

theorem pTail_adv {sub : Nat → Res Ex} {l : Toks} (hs : ∀ i x j, sub i = .ok x j → i ≤ j) {i j : Nat} {x : Ex} (h : pTail sub l i = .ok x j) : i ≤ j := by
  unfold pTail at h
  split at h
  · cases h
  · rename_i hk
    have := pHead_adv hs hk
    have := pPlaces_adv hs _ _ _ _ _ h
    omega

theorem pSums_adv {sub : Nat → Res Ex} {l : Toks} (hs : ∀ i x j, sub i = .ok x j → i ≤ j) : ∀ (n : Nat) (x y : Ex) (i j : Nat), pSums sub l n x i = .ok y j → i ≤ j
  | 0, _, _, _, _, h => by rw [pSums] at h; cases h
  | n + 1, x, y, i, j, h => by
    rw [pSums] at h
    split at h
    · split at h
      · cases h
      · rename_i hk
        have := pTail_adv hs hk
        have := pSums_adv hs n _ _ _ _ h
        omega
    · injection h with _ h; omega

theorem pEx_adv {l : Toks} : ∀ (f i : Nat) (x : Ex) (j : Nat), pEx l f i = .ok x j → i ≤ j
  | 0, _, _, _, h => by rw [pEx] at h; cases h
  | f + 1, i, x, j, h => by
    rw [pEx] at h
    split at h
    · cases h
    · rename_i hk
      have := pTail_adv (fun i x j => pEx_adv f i x j) hk
      have := pSums_adv (fun i x j => pEx_adv f i x j) _ _ _ _ _ h
      omega

theorem sgn_lt {l : Toks} {i : Nat} {s : List UInt8} (h : sgn l i s = true) : i < l.length := by
  unfold sgn tokB at h
  split at h
  · rename_i hk
    exact (List.getElem?_eq_some_iff.1 hk).1
  · cases h

end Go.Proofs.YtpamadnckijfkabGreatDoor
