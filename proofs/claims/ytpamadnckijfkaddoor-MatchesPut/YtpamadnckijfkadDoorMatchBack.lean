/- What unify's functions answer at the kinds that scullerykeep.Kind makes: plain facts, evaluated. -/
import Derived.Test.YtpamadnckijfkadDoorAlls
import Derived.Test.YtpamadnckijfkadDoorKindBack
namespace Go.Proofs.YtpamadnckijfkadDoor
open Go.RowKit
set_option maxRecDepth 100000

/-! the same functions, by a number of steps. -/
def unwF : Nat → ByteArray → ByteArray → ByteArray × ByteArray
  | 0, p, i => (p, i)
  | n + 1, p, i => if isList p && isList i then unwF n (inner p) (inner i) else (p, i)

theorem unw_fuel : ∀ (n : Nat) (p i : ByteArray), p.size ≤ n → unw p i = unwF n p i
  | 0, p, i, h => by
    rw [unwF]
    refine unw_no (.inl ?_)
    cases e : isList p with
    | false => rfl
    | true => have := isList_size e; omega
  | n + 1, p, i, h => by
    rw [unwF]
    cases e : isList p with
    | false => rw [unw_no (.inl e)]; rfl
    | true =>
      cases e' : isList i with
      | false => rw [unw_no (.inr e')]; rfl
      | true =>
        have h2 := isList_size e
        rw [unw_in e e', unw_fuel n _ _ (by rw [inner_size h2]; omega)]
        rfl

def argErrF (p i b : ByteArray) : Int := if errFuel p = 0 then (if errFuel i = 0 then (if b.toList == [] then 0 else errFuel b) else errFuel i) else errFuel p
def matchErrF (p i b : ByteArray) : Int := if argErrF p i b = 0 then fitErr (unwF 20 p i).1 (unwF 20 p i).2 b else argErrF p i b
def matchValF (p i b : ByteArray) : ByteArray := if matchErrF p i b = 0 then fitVal (unwF 20 p i).1 (unwF 20 p i).2 b else ⟨#[]⟩
def putErrF (p b : ByteArray) : Int := if errFuel p = 0 then (if hasVar p then (if errFuel b = 0 then (if 601 < p.size + b.size then 1 else 0) else errFuel b) else 0) else errFuel p
def putValF (p b : ByteArray) : ByteArray := if putErrF p b = 0 then (if hasVar p then putTo p b else p) else ⟨#[]⟩

theorem argErr_fuel {p i b : ByteArray} (hp : p.size ≤ 20) (hi : i.size ≤ 20) (hb : b.size ≤ 20) : argErr p i b = argErrF p i b := by
  unfold argErr argErrF
  rw [kindErr_fuel p hp, kindErr_fuel i hi, kindErr_fuel b hb]
theorem matchErr_fuel {p i b : ByteArray} (hp : p.size ≤ 20) (hi : i.size ≤ 20) (hb : b.size ≤ 20) : matchErr p i b = matchErrF p i b := by
  unfold matchErr matchErrF
  rw [argErr_fuel hp hi hb, unw_fuel 20 p i hp]
theorem matchVal_fuel {p i b : ByteArray} (hp : p.size ≤ 20) (hi : i.size ≤ 20) (hb : b.size ≤ 20) : matchVal p i b = matchValF p i b := by
  unfold matchVal matchValF
  rw [matchErr_fuel hp hi hb, unw_fuel 20 p i hp]
theorem putErr_fuel {p b : ByteArray} (hp : p.size ≤ 20) (hb : b.size ≤ 20) : putErr p b = putErrF p b := by
  unfold putErr putErrF
  rw [kindErr_fuel p hp, kindErr_fuel b hb]
theorem putVal_fuel {p b : ByteArray} (hp : p.size ≤ 20) (hb : b.size ≤ 20) : putVal p b = putValF p b := by
  unfold putVal putValF
  rw [putErr_fuel hp hb]

/-- what is to be known of two such kinds. -/
structure GoodM (p i : ByteArray) : Prop where
  sizeP : p.size ≤ 10
  sizeI : i.size ≤ 10
  bad : matchErr p i ⟨#[]⟩ ≠ 0 → matchErr p i ⟨#[]⟩ = 8 ∧ (p.toList == i.toList) = false
  shut : matchErr p i ⟨#[]⟩ = 0 → hasVar p = false → ((matchVal p i ⟨#[]⟩).toList == []) = true ∧ (p.toList == i.toList) = true
  var : matchErr p i ⟨#[]⟩ = 0 → hasVar p = true → putErr p (matchVal p i ⟨#[]⟩) = 0 ∧ putVal p (matchVal p i ⟨#[]⟩) = i ∧ matchErr p i (matchVal p i ⟨#[]⟩) = 0 ∧ matchVal p i (matchVal p i ⟨#[]⟩) = matchVal p i ⟨#[]⟩ ∧
    allErr [p, p] [i, i] (wrapK p) = 0 ∧ allVal [p, p] [i, i] (wrapK p) = wrapK i

def factsM (p i : ByteArray) : Bool :=
  decide (p.size ≤ 10) && decide (i.size ≤ 10) && decide ((matchValF p i ⟨#[]⟩).size ≤ 10) &&
  (if matchErrF p i ⟨#[]⟩ = 0 then
    (if hasVar p then decide (putErrF p (matchValF p i ⟨#[]⟩) = 0) && decide (putValF p (matchValF p i ⟨#[]⟩) = i) && decide (matchErrF p i (matchValF p i ⟨#[]⟩) = 0) && decide (matchValF p i (matchValF p i ⟨#[]⟩) = matchValF p i ⟨#[]⟩) &&
      decide (errFuel (wrapK p) = 0) && !((matchValF p i ⟨#[]⟩).toList == []) && decide (putErrF (wrapK p) (matchValF p i ⟨#[]⟩) = 0) && decide (putValF (wrapK p) (matchValF p i ⟨#[]⟩) = wrapK i)
     else ((matchValF p i ⟨#[]⟩).toList == []) && (p.toList == i.toList))
   else decide (matchErrF p i ⟨#[]⟩ = 8) && !(p.toList == i.toList))

set_option maxRecDepth 100000 in
theorem facts_all : ∀ n < 4, ∀ j < 3, ∀ m < 4, ∀ k < 3, factsM (kText n j) (kText m k) = true := by decide +kernel

theorem good_of_facts {p i : ByteArray} (h : factsM p i = true) : GoodM p i := by
  unfold factsM at h
  simp only [Bool.and_eq_true, decide_eq_true_eq] at h
  obtain ⟨⟨⟨hp, hi⟩, hx⟩, h⟩ := h
  have h0 : (⟨#[]⟩ : ByteArray).size ≤ 20 := Nat.zero_le _
  have em : matchErr p i ⟨#[]⟩ = matchErrF p i ⟨#[]⟩ := matchErr_fuel (by omega) (by omega) h0
  have ev : matchVal p i ⟨#[]⟩ = matchValF p i ⟨#[]⟩ := matchVal_fuel (by omega) (by omega) h0
  have e1 : (⟨#[91]⟩ : ByteArray).size = 1 := rfl
  have e2 : (⟨#[93]⟩ : ByteArray).size = 1 := rfl
  have zw : (wrapK p).size ≤ 20 := by unfold wrapK; rw [ByteArray.size_append, ByteArray.size_append]; omega
  refine ⟨hp, hi, ?_, ?_, ?_⟩
  · intro hm
    rw [em] at hm ⊢
    rw [if_neg hm] at h
    simpa using h
  · intro hm hv
    rw [em] at hm
    rw [if_pos hm, hv] at h
    rw [ev]
    simpa using h
  · intro hm hv
    have hm' := hm
    rw [em] at hm
    rw [if_pos hm, hv] at h
    simp only [if_true, Bool.and_eq_true, decide_eq_true_eq, Bool.not_eq_true'] at h
    obtain ⟨⟨⟨⟨⟨⟨⟨a1, a2⟩, a3⟩, a4⟩, a5⟩, a6⟩, a7⟩, a8⟩ := h
    have f3 : matchErr p i (matchVal p i ⟨#[]⟩) = 0 := by rw [ev, matchErr_fuel (by omega) (by omega) (by omega)]; exact a3
    have f4 : matchVal p i (matchVal p i ⟨#[]⟩) = matchVal p i ⟨#[]⟩ := by rw [ev, matchVal_fuel (by omega) (by omega) (by omega)]; exact a4
    have er : eachRes [p, p] [i, i] ⟨#[]⟩ = (matchVal p i ⟨#[]⟩, 0) := by
      rw [eachRes, if_pos hm', eachRes, if_pos f3, f4]
      simp [eachRes]
    have g := allErr_put (ps := [p, p]) (is := [i, i]) (r := wrapK p) (by simp) rfl (by rw [er]) (by rw [kindErr_fuel _ zw]; exact a5) (by rw [er, ev, a6]; rfl)
    rw [er, ev] at g
    simp only at g
    rw [putErr_fuel zw (by omega), putVal_fuel zw (by omega), a7, a8] at g
    exact ⟨by rw [ev, putErr_fuel (by omega) (by omega)]; exact a1, by rw [ev, putVal_fuel (by omega) (by omega)]; exact a2, f3, f4, g.1, g.2⟩

end Go.Proofs.YtpamadnckijfkadDoor
