/- What the reference's head, tail, all and expr answer: joined. -/
import Derived.Test.YtpamadnckijfkabGreatDoorEyeHead6
import Derived.Test.YtpamadnckijfkabGreatDoorEyeKind8
namespace Go.Proofs.YtpamadnckijfkabGreatDoor
open Go.RowKit
set_option maxRecDepth 100000

theorem ident_none {t : ByteArray} (h : identOk t = true) : noneB t = false := by
  have h1 : isIn t.size 1 8 = true := by
    cases e : isIn t.size 1 8 with
    | true => rfl
    | false => rw [identOk, wordOk, e] at h; cases h
  cases e : noneB t with
  | false => rfl
  | true =>
    have : t.data.toList = [] := by simpa [noneB] using e
    have hz : t.size = 0 := by rw [Lib.size_eq, this]; rfl
    rw [hz] at h1
    exact absurd h1 (by decide)

theorem ey_num {B : Nat} {l : Toks} {i : Nat} {e d : Int} {w : World} (h : EyeAt B l i e d w) : ∀ t ∈ l, t.1 = 2 → numOk t.2 = true := by
  obtain ⟨_, _, ⟨⟨_, h⟩, _⟩, _⟩ := h
  exact h

theorem head_eye (B : Nat) (l : Toks) (d : Nat) (sub : Nat → Res Ex) (hE : ExprEye B l d sub) (hA : AllEye B l d sub) : HeadEye B l d sub := by
  intro i e w h
  by_cases he : e = 0
  · subst he
    rw [after_ok]
    cases hp : sgn l i [40] with
    | true => exact head_paren B l d sub hE i w h hp
    | false =>
      cases hb : sgn l i [91] with
      | true => exact head_items B l d sub hA i w h hp hb
      | false =>
        have hs1 : seesB l i 0 [40] = false := by unfold seesB; rw [hp]; rfl
        have hs2 : seesB l i 0 [91] = false := by unfold seesB; rw [hb]; rfl
        have hstep : pHead sub l i = match takeAt l i 2 with
            | some t => .ok (exNum t) (i + 1)
            | none => match takeAt l i 3 with
              | some t => .ok (exQuote t) (i + 1)
              | none => pCall sub l i := by rw [pHead, hp, hb]; rfl
        by_cases hlt : i < l.length
        · have hsz : l[i].2.size ≤ maxLen := by
            obtain ⟨ta, tcap, _, _, _, _, _, _, _, _, _, htok⟩ := ey_cells h
            obtain ⟨_, _, _, _, _, _, hz⟩ := htok hlt
            exact hz
          have hone := fun W (hW : EyeAt B l i 0 (d : Int) W) => one_some B l i _ W hW hlt
          rw [takeAt_of hlt, takeAt_of hlt] at hstep
          by_cases hk2 : l[i].1 = 2
          · rw [hk2] at hone
            rw [if_pos hk2] at hstep
            exact head_num B l d _ i (i + 1) 0 _ hsz w h hs1 hs2 hone rfl (ey_num h _ (List.getElem_mem hlt) hk2) hstep
          · rw [if_neg hk2] at hstep
            by_cases hk3 : l[i].1 = 3
            · rw [hk3] at hone
              rw [if_pos hk3] at hstep
              exact head_quote B l d _ i (i + 1) 0 _ hsz w h hs1 hs2 hone rfl hstep
            · rw [if_neg hk3] at hstep
              have hstep' : pHead sub l i = pCall sub l i := hstep
              by_cases hk1 : l[i].1 = 1
              · rw [hk1] at hone
                have hid : identAt l i = if identOk l[i].2 = true then some l[i].2 else none := by
                  unfold identAt; rw [takeAt_of hlt, if_pos hk1]
                cases hio : identOk l[i].2 with
                | false =>
                  rw [hio, if_neg (by simp)] at hid
                  exact head_bad B l d _ i (i + 1) 0 1 _ hsz w h hs1 hs2 hone (by decide) (by decide) (.inr ⟨rfl, hio⟩) (by rw [hstep', pCall, nameAt, hid]; rfl)
                | true =>
                  rw [hio, if_pos rfl] at hid
                  cases hd : sgn l (i + 1) [46] with
                  | false =>
                    have hn : nameAt l i = .ok (emptyText, l[i].2) (i + 1) := by rw [nameAt, hid]; simp [hd]
                    cases hq : sgn l (i + 1) [40] with
                    | false =>
                      refine head_param B l d _ i (i + 1) 0 _ hsz w h hs1 hs2 hone rfl hio hd hq ?_
                      rw [hstep', pCall, hn]
                      simp only [hq]
                      rfl
                    | true =>
                      refine head_call B l d _ i (i + 1) 0 _ hsz w h hs1 hs2 hone sub hA rfl hio hd hq ?_
                      rw [hstep', pCall, hn, argsRes]
                      simp only [hq, if_true]
                      rfl
                  | true =>
                    refine head_of B l d _ i (i + 1) 0 _ hsz w h hs1 hs2 hone sub hA rfl hio hd (fun hm => ?_) (fun m hm => ?_)
                    · rw [hstep', pCall, nameAt, hid]
                      simp only [hd, if_true]
                      rw [show identAt l (i + 2) = none from hm]
                    · have hn : nameAt l i = .ok (l[i].2, m) (i + 3) := by
                        rw [nameAt, hid]
                        simp only [hd, if_true]
                        rw [show identAt l (i + 2) = some m from hm]
                      rw [hstep', pCall, hn]
                      show _ = if sgn l (i + 3) [40] = true then argsRes sub l l[i].2 m (i + 4) else .bad 4
                      cases hq : sgn l (i + 3) [40] with
                      | true =>
                        rw [argsRes]
                        simp only [hq, if_true]
                        rfl
                      | false =>
                        simp only [hq, ident_none hio]
                        rfl
              · have hid : identAt l i = none := by unfold identAt; rw [takeAt_of hlt, if_neg hk1]
                exact head_bad B l d _ i (i + 1) 0 _ _ hsz w h hs1 hs2 hone (beq_eq_false_iff_ne.2 hk3) (beq_eq_false_iff_ne.2 hk2) (.inl (bne_iff_ne.2 hk1)) (by rw [hstep', pCall, nameAt, hid]; rfl)
        · have hone := fun W (hW : EyeAt B l i 0 (d : Int) W) => one_none B l i 0 _ W hW (Or.inr hlt)
          rw [takeAt_out hlt, takeAt_out hlt] at hstep
          have hstep' : pHead sub l i = pCall sub l i := hstep
          have hid : identAt l i = none := by unfold identAt; rw [takeAt_out hlt]
          exact head_bad B l d _ i i 0 0 _ (Nat.zero_le _) w h hs1 hs2 hone (by decide) (by decide) (.inl rfl) (by rw [hstep', pCall, nameAt, hid]; rfl)
  · have hone := fun W (hW : EyeAt B l i e (d : Int) W) => one_none B l i e _ W hW (Or.inl he)
    exact head_bad B l d _ i i e 0 _ (Nat.zero_le _) w h (sees_wrong he) (sees_wrong he) hone (by decide) (by decide) (.inl rfl) (by rw [after_bad he]; unfold firstOf; rw [if_neg he])

/-- expr reads as the plain reading says. -/
theorem eye_expr (B : Nat) (l : Toks) : ∀ f d, d + f = 40 → ExprEye B l d (pEx l f) :=
  expr_eye B l (fun f d _ hE => tail_eye B l d (pEx l f) hE (head_eye B l d _ hE (all_eye B l d _ hE (fun i x j h => pEx_adv f i x j h))) (fun i x j h => pEx_adv f i x j h))

end Go.Proofs.YtpamadnckijfkabGreatDoor
