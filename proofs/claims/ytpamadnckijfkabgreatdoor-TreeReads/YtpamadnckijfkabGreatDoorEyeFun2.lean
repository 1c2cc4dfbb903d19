/- What the reference's function answers behind the params: the result, the body. -/
import Derived.Test.YtpamadnckijfkabGreatDoorEyeFun1
import Derived.Test.YtpamadnckijfkabGreatDoorMod
namespace Go.Proofs.YtpamadnckijfkabGreatDoor
open Go.RowKit
set_option maxRecDepth 100000

theorem row_cell {w : World} {b : Nat} {cs : Array Value} {T : TypeId} (h : w.heap[b]? = some (.cells cs T (0, 0))) (o : Nat) (v : Value) (hv : cs[o]? = some v) : w.cell? ⟨b, o, none⟩ = some v := by
  rw [cell_of_row w b o _ _ _ h]; exact hv

/-- stores into a block of the call's own. -/
theorem fars {B : Nat} {l : Toks} {i : Nat} {e d : Int} {w : World} {c : Nat} (hc : B < c) (hw : w.heap.size ≤ c) : ∀ (vs : List Value) (o : Nat) (w' : World), EyeAt B l i e d w' → Moved B w w' → EyeAt B l i e d (w'.setCells c o vs) ∧ Moved B w (w'.setCells c o vs)
  | [], _, _, hE, hM => ⟨hE, hM⟩
  | v :: r, o, _, hE, hM => fars hc hw r (o + 1) _ (ey_far hE hc o v) (mv_far hM hw hc o v)

theorem sets_other {c b : Nat} (h : b ≠ c) : ∀ (vs : List Value) (o : Nat) (w : World), (w.setCells c o vs).heap[b]? = w.heap[b]?
  | [], _, _ => rfl
  | v :: r, o, w => (sets_other h r (o + 1) _).trans (Below.heap_setCell _ _ _ _ (by exact h))

/-- what is told of a function. -/
def FunR (B : Nat) (l : Toks) (T : Res Fu) (w : World) (r : Ending) (w' : World) : Prop :=
  Moved B w w' ∧ ∃ n v a m c k o nn a1 m1 c1 k' n' o' s' a2 m2 c2, r = .returned (.agg #[.string n, .string v, .slice a m c, .int .i64 k, .string o, .string nn, .slice a1 m1 c1, .int .i64 k', .int .i64 n', .string o', .string s', .slice a2 m2 c2]) ∧
    ∃ e j, EyeAt B l j e 0 w' ∧ ((e = 0 ∧ ∃ x, T = .ok x j ∧ FuC (Fresh w.heap.size w') w' x [.string n, .string v, .slice a m c, .int .i64 k, .string o, .string nn, .slice a1 m1 c1, .int .i64 k', .int .i64 n', .string o', .string s', .slice a2 m2 c2]) ∨ (e ≠ 0 ∧ T = .bad e))

/-- behind the params: what is told of the rest. -/
theorem fin_st {l : Toks} {n v : ByteArray} {T : Res Fu} {PS : List Fd → Prop} {QT : Ty → Prop} {QX : Ex → Prop} {j0 j1 j2 j3 j4 : Nat} {e0 e1 e2 e3 e4 : Int}
    (h0 : (e0 = 0 ∧ ∃ ps, PS ps ∧ T = finRes l n v ps j0) ∨ (e0 ≠ 0 ∧ T = .bad e0)) (h1 : e1 = wantE (seesB l j0 e0 [58]) e0 ∧ j1 = adv (seesB l j0 e0 [58]) j0)
    (h2 : (e2 = 0 ∧ ∃ t, after e1 (pTy l 40 j1) = .ok t j2 ∧ QT t) ∨ (e2 ≠ 0 ∧ after e1 (pTy l 40 j1) = .bad e2)) (h3 : e3 = wantE (seesB l j2 e2 [61]) e2 ∧ j3 = adv (seesB l j2 e2 [61]) j2)
    (h4 : (e4 = 0 ∧ ∃ x, after e3 (pEx l 40 j3) = .ok x j4 ∧ QX x) ∨ (e4 ≠ 0 ∧ after e3 (pEx l 40 j3) = .bad e4)) :
    (e4 = 0 ∧ ∃ ps t x, PS ps ∧ QT t ∧ QX x ∧ T = .ok ⟨n, v, ps, t, x⟩ j4) ∨ (e4 ≠ 0 ∧ T = .bad e4) := by
  obtain ⟨rfl, rfl⟩ := h1
  obtain ⟨rfl, rfl⟩ := h3
  have late : ∀ e : Int, e ≠ 0 → T = .bad e → wantE (seesB l j2 e2 [61]) e2 = e → (e4 = 0 ∧ ∃ ps t x, PS ps ∧ QT t ∧ QX x ∧ T = .ok ⟨n, v, ps, t, x⟩ j4) ∨ (e4 ≠ 0 ∧ T = .bad e4) := by
    intro e he hT hw
    rw [hw, after_bad he] at h4
    rcases h4 with ⟨_, x, hx, _⟩ | ⟨hne, hx⟩
    · cases hx
    · injection hx with hx
      subst hx
      exact .inr ⟨hne, hT⟩
  have mid : ∀ e : Int, e ≠ 0 → T = .bad e → e2 = e → (e4 = 0 ∧ ∃ ps t x, PS ps ∧ QT t ∧ QX x ∧ T = .ok ⟨n, v, ps, t, x⟩ j4) ∨ (e4 ≠ 0 ∧ T = .bad e4) := by
    intro e he hT hw
    subst hw
    exact late e2 he hT (by rw [sees_wrong he, want_wrong he])
  have early : ∀ e : Int, e ≠ 0 → T = .bad e → wantE (seesB l j0 e0 [58]) e0 = e → (e4 = 0 ∧ ∃ ps t x, PS ps ∧ QT t ∧ QX x ∧ T = .ok ⟨n, v, ps, t, x⟩ j4) ∨ (e4 ≠ 0 ∧ T = .bad e4) := by
    intro e he hT hw
    rw [hw, after_bad he] at h2
    rcases h2 with ⟨_, t, ht, _⟩ | ⟨hne, ht⟩
    · cases ht
    · injection ht with ht
      exact mid e he hT ht.symm
  rcases h0 with ⟨rfl, ps, hps, hT⟩ | ⟨hne, hT⟩
  · unfold finRes at hT
    cases hs : sgn l j0 [58] with
    | false =>
      rw [hs] at hT
      exact early 4 (by decide) hT (by rw [show seesB l j0 0 [58] = false from by unfold seesB; rw [hs]; rfl]; rfl)
    | true =>
      have hb : seesB l j0 0 [58] = true := by unfold seesB; rw [hs]; rfl
      rw [hb, show wantE true 0 = 0 from rfl, after_ok, show adv true j0 = j0 + 1 from rfl] at h2
      rw [hs] at hT
      simp only [if_true] at hT
      rcases h2 with ⟨rfl, t, ht, hqt⟩ | ⟨hne, ht⟩
      · rw [ht] at hT
        simp only at hT
        cases hs2 : sgn l j2 [61] with
        | false =>
          rw [hs2] at hT
          exact late 4 (by decide) hT (by rw [show seesB l j2 0 [61] = false from by unfold seesB; rw [hs2]; rfl]; rfl)
        | true =>
          have hb2 : seesB l j2 0 [61] = true := by unfold seesB; rw [hs2]; rfl
          rw [hb2, show wantE true 0 = 0 from rfl, after_ok, show adv true j2 = j2 + 1 from rfl] at h4
          rw [hs2] at hT
          simp only [if_true] at hT
          rcases h4 with ⟨rfl, x, hx, hqx⟩ | ⟨hne, hx⟩
          · rw [hx] at hT
            exact .inl ⟨rfl, ps, t, x, hps, hqt, hqx, hT⟩
          · rw [hx] at hT
            exact .inr ⟨hne, hT⟩
      · rw [ht] at hT
        exact mid e2 hne hT rfl
  · exact early e0 hne hT (by rw [sees_wrong hne, want_wrong hne])

end Go.Proofs.YtpamadnckijfkabGreatDoor
