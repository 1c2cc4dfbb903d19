/- What is wrong with a line is no number 0. -/
import Derived.Test.YtpamadnckijfkabGreatDoorReadLine
namespace Go.Proofs.YtpamadnckijfkabGreatDoor
open Go.RowKit
set_option maxRecDepth 100000

theorem nameAt_ne {l : Toks} {i : Nat} {e : Int} (h : nameAt l i = .bad e) : e ≠ 0 := by
  unfold nameAt at h
  split at h
  · injection h with h; omega
  · split at h
    · split at h
      · injection h with h; omega
      · cases h
    · cases h

theorem pTy_ne {l : Toks} : ∀ (f i : Nat) (e : Int), pTy l f i = .bad e → e ≠ 0
  | 0, _, _, h => by rw [pTy] at h; injection h with h; omega
  | f + 1, i, e, h => by
    rw [pTy] at h
    split at h
    · cases h
    · split at h
      · cases h
      · split at h
        · split at h
          · rename_i hk
            injection h with h
            subst h
            exact pTy_ne f _ _ hk
          · split at h
            · cases h
            · injection h with h; omega
        · split at h
          · rename_i hk
            injection h with h
            subst h
            exact nameAt_ne hk
          · cases h

theorem pList_ne {α : Type} {sub : Nat → Res α} {l : Toks} {fin : List UInt8} (hs : ∀ i e, sub i = .bad e → e ≠ 0) : ∀ (n : Nat) (acc : List α) (i : Nat) (e : Int), pList sub l fin n acc i = .bad e → e ≠ 0
  | 0, _, _, _, h => by rw [pList] at h; injection h with h; omega
  | n + 1, acc, i, e, h => by
    rw [pList] at h
    split at h
    · rename_i hk
      injection h with h
      subst h
      exact hs _ _ hk
    · split at h
      · exact pList_ne hs n _ _ _ h
      · split at h
        · cases h
        · injection h with h; omega

theorem pCall_ne {sub : Nat → Res Ex} {l : Toks} (hs : ∀ i e, sub i = .bad e → e ≠ 0) {i : Nat} {e : Int} (h : pCall sub l i = .bad e) : e ≠ 0 := by
  unfold pCall at h
  split at h
  · rename_i hk
    injection h with h
    subst h
    exact nameAt_ne hk
  · split at h
    · split at h
      · cases h
      · split at h
        · rename_i hl
          injection h with h
          subst h
          exact pList_ne hs _ _ _ _ hl
        · cases h
    · split at h
      · cases h
      · injection h with h; omega

theorem pHead_ne {sub : Nat → Res Ex} {l : Toks} (hs : ∀ i e, sub i = .bad e → e ≠ 0) {i : Nat} {e : Int} (h : pHead sub l i = .bad e) : e ≠ 0 := by
  unfold pHead at h
  split at h
  · split at h
    · rename_i hk
      injection h with h
      subst h
      exact hs _ _ hk
    · split at h
      · cases h
      · injection h with h; omega
  · split at h
    · split at h
      · rename_i hl
        injection h with h
        subst h
        exact pList_ne hs _ _ _ _ hl
      · cases h
    · split at h
      · cases h
      · split at h
        · cases h
        · exact pCall_ne hs h

theorem pPlaces_ne {sub : Nat → Res Ex} {l : Toks} (hs : ∀ i e, sub i = .bad e → e ≠ 0) : ∀ (n : Nat) (x : Ex) (i : Nat) (e : Int), pPlaces sub l n x i = .bad e → e ≠ 0
  | 0, _, _, _, h => by rw [pPlaces] at h; injection h with h; omega
  | n + 1, x, i, e, h => by
    rw [pPlaces] at h
    split at h
    · split at h
      · rename_i hk
        injection h with h
        subst h
        exact hs _ _ hk
      · split at h
        · exact pPlaces_ne hs n _ _ _ h
        · injection h with h; omega
    · cases h

theorem pTail_ne {sub : Nat → Res Ex} {l : Toks} (hs : ∀ i e, sub i = .bad e → e ≠ 0) {i : Nat} {e : Int} (h : pTail sub l i = .bad e) : e ≠ 0 := by
  unfold pTail at h
  split at h
  · rename_i hk
    injection h with h
    subst h
    exact pHead_ne hs hk
  · exact pPlaces_ne hs _ _ _ _ h

theorem pSums_ne {sub : Nat → Res Ex} {l : Toks} (hs : ∀ i e, sub i = .bad e → e ≠ 0) : ∀ (n : Nat) (x : Ex) (i : Nat) (e : Int), pSums sub l n x i = .bad e → e ≠ 0
  | 0, _, _, _, h => by rw [pSums] at h; injection h with h; omega
  | n + 1, x, i, e, h => by
    rw [pSums] at h
    split at h
    · split at h
      · rename_i hk
        injection h with h
        subst h
        exact pTail_ne hs hk
      · exact pSums_ne hs n _ _ _ h
    · cases h

theorem pEx_ne {l : Toks} : ∀ (f i : Nat) (e : Int), pEx l f i = .bad e → e ≠ 0
  | 0, _, _, h => by rw [pEx] at h; injection h with h; omega
  | f + 1, i, e, h => by
    rw [pEx] at h
    split at h
    · rename_i hk
      injection h with h
      subst h
      exact pTail_ne (fun i e => pEx_ne f i e) hk
    · exact pSums_ne (fun i e => pEx_ne f i e) _ _ _ _ h

theorem pNamed_ne {l : Toks} {s : List UInt8} {i : Nat} {e : Int} (h : pNamed l s i = .bad e) : e ≠ 0 := by
  unfold pNamed at h
  split at h
  · injection h with h; omega
  · split at h
    · split at h
      · rename_i hk
        injection h with h
        subst h
        exact pTy_ne _ _ _ hk
      · cases h
    · injection h with h; omega

theorem pVar_ne {l : Toks} {i : Nat} {e : Int} (h : pVar l i = .bad e) : e ≠ 0 := by
  unfold pVar at h
  split at h
  · split at h
    · injection h with h; omega
    · split at h
      · cases h
      · injection h with h; omega
  · cases h

theorem pParams_ne {l : Toks} {i : Nat} {e : Int} (h : pParams l i = .bad e) : e ≠ 0 := by
  unfold pParams at h
  split at h
  · cases h
  · exact pList_ne (fun i e h => pNamed_ne h) _ _ _ _ h

theorem pFun_ne {l : Toks} {i : Nat} {e : Int} (h : pFun l i = .bad e) : e ≠ 0 := by
  unfold pFun at h
  split at h
  · injection h with h; omega
  · split at h
    · rename_i hk
      injection h with h
      subst h
      exact pVar_ne hk
    · split at h
      · split at h
        · rename_i hk
          injection h with h
          subst h
          exact pParams_ne hk
        · split at h
          · split at h
            · rename_i hk
              injection h with h
              subst h
              exact pTy_ne _ _ _ hk
            · split at h
              · split at h
                · rename_i hk
                  injection h with h
                  subst h
                  exact pEx_ne _ _ _ hk
                · cases h
              · injection h with h; omega
          · injection h with h; omega
      · injection h with h; omega

theorem pLine_ne {l : Toks} {e : Int} (h : pLine l = .error e) : e ≠ 0 := by
  unfold pLine at h
  simp only at h
  split at h
  · cases h
  · split at h
    · split at h
      · injection h with h; omega
      · split at h
        · cases h
        · injection h with h; omega
    · split at h
      · split at h
        · rename_i hk
          injection h with h
          subst h
          exact pNamed_ne hk
        · split at h
          · cases h
          · injection h with h; omega
      · split at h
        · split at h
          · rename_i hk
            injection h with h
            subst h
            exact pFun_ne hk
          · split at h
            · cases h
            · injection h with h; omega
        · injection h with h; omega

theorem lineRes_ne {s : ByteArray} {e : Int} (h : lineRes s = .error e) : e ≠ 0 := by
  unfold lineRes at h
  split at h
  · exact pLine_ne h
  · rename_i hc
    injection h with h
    subst h
    exact hc

end Go.Proofs.YtpamadnckijfkabGreatDoor
