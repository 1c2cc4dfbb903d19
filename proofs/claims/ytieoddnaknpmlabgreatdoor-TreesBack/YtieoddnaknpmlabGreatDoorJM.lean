/- Plain functions: how types, expressions and modules are shown (P2.5), and how long that can be. -/
import Derived.Test.YtieoddnaknpmlabGreatDoorJA
import Derived.Test.YtieoddnaknpmlabGreatDoorJB
import Derived.Test.YtieoddnaknpmlabGreatDoorJC
import Derived.Lib.ItoaNum
import Derived.WalkKit
import Derived.RegionTactic
import Derived.ChangeAlike
import Derived.Shelf.Strings.Builder1
import Derived.Lib.Builder
import Derived.Lib.AppendStr
namespace Go.Proofs.YtieoddnaknpmlabGreatDoor
open Go.RowKit
set_option maxRecDepth 100000

def nameShown (o n : ByteArray) : List UInt8 := if noneB o = true then n.data.toList else o.data.toList ++ ([46] ++ n.data.toList)

mutual
def tyShown : Ty → List UInt8
  | .mk k o n xs => if k = 1 then [105, 110, 116] else if k = 2 then [116, 101, 120, 116] else if k = 3 then [91] ++ (tyHead xs ++ [93]) else nameShown o n
def tyHead : List Ty → List UInt8
  | [] => []
  | t :: _ => tyShown t
end

def numShown (n : Int) : List UInt8 := Lib.decDigits n.toNat

mutual
def exShown : Ex → List UInt8
  | .mk k n o s xs =>
    if k = 1 then numShown n
    else if k = 2 then [34] ++ (s.data.toList ++ [34])
    else if k = 3 then s.data.toList
    else if k = 4 then nameShown o s ++ ([40] ++ (exJoin xs ++ [41]))
    else if k = 5 then [40] ++ (exFst xs ++ ([32, 43, 32] ++ (exSnd xs ++ [41])))
    else if k = 6 then [91] ++ (exJoin xs ++ [93])
    else exFst xs ++ ([91] ++ (exSnd xs ++ [93]))
def exFst : List Ex → List UInt8
  | [] => []
  | t :: _ => exShown t
def exSnd : List Ex → List UInt8
  | [] => []
  | _ :: r => exFst r
def exJoin : List Ex → List UInt8
  | [] => []
  | t :: r => exShown t ++ exMore r
def exMore : List Ex → List UInt8
  | [] => []
  | t :: r => [44, 32] ++ (exShown t ++ exMore r)
end

/-- the first k of a list, with commas between. -/
def exTo (l : List Ex) : Nat → List UInt8
  | 0 => []
  | k + 1 => exTo l k ++ ((if k = 0 then [] else [44, 32]) ++ ((l[k]?).elim [] exShown))

theorem exTo_more : ∀ (l : List Ex) (t : Ex) (k : Nat), k ≤ l.length → exTo (t :: l) (k + 1) ++ exMore (l.drop k) = exShown t ++ exMore l
  | l, t, 0, _ => by simp [exTo]
  | l, t, k + 1, h => by
    have ih := exTo_more l t k (by omega)
    have hk : k < l.length := by omega
    rw [exTo, if_neg (by omega)]
    rw [List.getElem?_cons_succ, List.getElem?_eq_getElem hk, Option.elim]
    rw [← ih, List.drop_eq_getElem_cons hk, exMore]
    simp [List.append_assoc]

theorem exTo_all (l : List Ex) : exTo l l.length = exJoin l := by
  cases l with
  | nil => simp [exTo, exJoin]
  | cons t r =>
    have := exTo_more r t r.length (Nat.le_refl _)
    rw [List.drop_length, exMore, List.append_nil] at this
    rw [exJoin, List.length_cons, this]

def fdShown (f : Fd) : List UInt8 := f.name.data.toList ++ ([58, 32] ++ tyShown f.is)
/-- the first k params, with commas between. -/
def fdTo (l : List Fd) : Nat → List UInt8
  | 0 => []
  | k + 1 => fdTo l k ++ ((if k = 0 then [] else [44, 32]) ++ ((l[k]?).elim [] fdShown))

def varShown (v : ByteArray) : List UInt8 := if noneB v = true then [] else [60] ++ (v.data.toList ++ [62])
def fuShown (f : Fu) : List UInt8 := [102, 117, 110, 99, 32] ++ (f.name.data.toList ++ (varShown f.var ++ ([40] ++ (fdTo f.params f.params.length ++ ([41, 58, 32] ++ (tyShown f.result ++ ([32, 61, 32] ++ exShown f.body)))))))
def useLine (s : ByteArray) : List UInt8 := [117, 115, 101, 32] ++ (s.data.toList ++ [10])
def typeLine (f : Fd) : List UInt8 := [116, 121, 112, 101, 32] ++ (f.name.data.toList ++ ([32, 61, 32] ++ (tyShown f.is ++ [10])))
def funLine (f : Fu) : List UInt8 := fuShown f ++ [10]
/-- the first k lines. -/
def linesTo {α : Type} (g : α → List UInt8) (l : List α) : Nat → List UInt8
  | 0 => []
  | k + 1 => linesTo g l k ++ ((l[k]?).elim [] g)
def moShown (m : Mo) : List UInt8 := linesTo useLine m.uses m.uses.length ++ (linesTo typeLine m.types m.types.length ++ linesTo funLine m.funcs m.funcs.length)

/-! ### How long they are -/

theorem ident_size {s : ByteArray} (h : identOk s = true) : s.data.toList.length ≤ 8 := by
  have h1 : isIn s.size 1 8 = true := by
    cases e : isIn s.size 1 8 with
    | true => rfl
    | false => rw [identOk, wordOk, e] at h; cases h
  have : s.data.toList.length = s.size := rfl
  simp [isIn] at h1
  omega
theorem none_size {s : ByteArray} (h : noneB s = true) : s.data.toList.length = 0 := by
  have : s.data.toList = [] := by simpa [noneB] using h
  rw [this]; rfl
theorem noneOr_size {s : ByteArray} (h : noneOrIdent s = true) : s.data.toList.length ≤ 8 := by
  unfold noneOrIdent at h
  cases hn : noneB s with
  | true => have := none_size hn; omega
  | false => rw [hn] at h; exact ident_size (by simpa using h)
theorem quote_size {s : ByteArray} (h : quoteOk s = true) : s.data.toList.length ≤ 20 := by
  have : s.data.toList.length = s.size := rfl
  simp only [quoteOk, Bool.and_eq_true, decide_eq_true_eq] at h
  omega
theorem name_size {o n : ByteArray} (ho : noneOrIdent o = true) (hn : identOk n = true) : (nameShown o n).length ≤ 17 := by
  have h1 := noneOr_size ho
  have h2 := ident_size hn
  unfold nameShown
  split
  · omega
  · simp only [List.length_append, List.length_cons, List.length_nil]; omega

theorem ty_ok {k : Int} {o n : ByteArray} {xs : List Ty} {d : Nat} (h : tyFault (.mk k o n xs) d = 0) : d ≤ 10 ∧ isIn k 1 4 = true ∧ tyFits k o n xs.length = true ∧ tysFault xs (d + 1) = 0 := by
  rw [tyFault] at h
  split at h
  · omega
  split at h
  · omega
  split at h
  · omega
  rename_i h1 h2 h3
  exact ⟨by omega, by simpa using h2, by simpa using h3, h⟩
theorem tys_at {xs : List Ty} {d : Nat} (h : tysFault xs d = 0) (j : Nat) (hj : j < xs.length) : tyFault xs[j] d = 0 := by
  rw [tysFault_first] at h
  exact firstBad_all _ xs h j hj

theorem ty_size : ∀ (m : Nat) (t : Ty) (d : Nat), 10 < d + m → tyFault t d = 0 → (tyShown t).length ≤ 17 + 2 * m := by
  intro m
  induction m with
  | zero =>
    rintro ⟨k, o, n, xs⟩ d hd h
    have := (ty_ok h).1
    omega
  | succ m ih =>
    rintro ⟨k, o, n, xs⟩ d hd h
    obtain ⟨_, hk, hf, hx⟩ := ty_ok h
    rw [tyShown]
    by_cases h1 : k = 1
    · simp only [if_pos h1, List.length_cons, List.length_nil]; omega
    by_cases h2 : k = 2
    · simp only [if_neg h1, if_pos h2, List.length_cons, List.length_nil]; omega
    by_cases h3 : k = 3
    · simp only [if_neg h1, if_neg h2, if_pos h3, List.length_append, List.length_cons, List.length_nil]
      cases xs with
      | nil => simp only [tyHead, List.length_nil]; omega
      | cons t r =>
        have := ih t (d + 1) (by omega) (tys_at hx 0 (by simp))
        simp only [tyHead]
        omega
    · simp only [if_neg h1, if_neg h2, if_neg h3]
      have h4 : k = 4 := by simp [isIn] at hk; omega
      subst h4
      have hf' : (xs.length == 0 && (identOk n && noneOrIdent o)) = true := hf
      simp only [Bool.and_eq_true] at hf'
      have := name_size hf'.2.2 hf'.2.1
      omega

theorem ex_ok {k n : Int} {o s : ByteArray} {xs : List Ex} {d : Nat} (h : exFault (.mk k n o s xs) d = 0) :
    d ≤ 10 ∧ isIn k 1 7 = true ∧ xs.length ≤ 8 ∧ (k = 1 ∨ n = 0) ∧ namesFit k o s = true ∧ countFits k xs.length = true ∧ isIn n 0 999999 = true ∧ exsFault xs (d + 1) = 0 := by
  rw [exFault] at h
  split at h
  · omega
  split at h
  · omega
  split at h
  · omega
  split at h
  · omega
  split at h
  · omega
  rename_i h1 h2 h3 h4 h5
  have hk1 : k = 1 ∨ n = 0 := by
    by_cases hk : k = 1
    · exact Or.inl hk
    · by_cases hn : n = 0
      · exact Or.inr hn
      · exact absurd (Or.inl ⟨hn, hk⟩) h4
  refine ⟨by omega, by simpa using h2, by omega, hk1, ?_, ?_, by simpa using h5, h⟩
  · cases hn : namesFit k o s with
    | true => rfl
    | false => exact absurd (Or.inr (Or.inl hn)) h4
  · cases hn : countFits k xs.length with
    | true => rfl
    | false => exact absurd (Or.inr (Or.inr hn)) h4
theorem exs_at {xs : List Ex} {d : Nat} (h : exsFault xs d = 0) (j : Nat) (hj : j < xs.length) : exFault xs[j] d = 0 := by
  rw [exsFault_first] at h
  exact firstBad_all _ xs h j hj

theorem exTo_size (l : List Ex) (b : Nat) (h : ∀ j (hj : j < l.length), (exShown l[j]).length ≤ b) : ∀ k, k ≤ l.length → (exTo l k).length ≤ k * (b + 2)
  | 0, _ => by simp [exTo]
  | k + 1, hk => by
    have ih := exTo_size l b h k (by omega)
    have := h k (by omega)
    rw [exTo, List.getElem?_eq_getElem (by omega)]
    simp only [Option.elim, List.length_append]
    have e : (k + 1) * (b + 2) = k * (b + 2) + (b + 2) := Nat.succ_mul k (b + 2)
    split
    · simp only [List.length_nil]; omega
    · simp only [List.length_cons, List.length_nil]; omega

theorem num_size {n : Int} (h : isIn n 0 999999 = true) : (numShown n).length ≤ 6 := by
  unfold numShown
  rw [Lib.decDigits_length]
  have hn : n.toNat ≤ 999999 := by simp [isIn] at h; omega
  generalize n.toNat = u at *
  rw [Lib.nDigits]
  split
  · omega
  rw [Lib.nDigits]
  split
  · omega
  rw [Lib.nDigits]
  split
  · omega
  rw [Lib.nDigits]
  split
  · omega
  rw [Lib.nDigits]
  split
  · omega
  rw [Lib.nDigits]
  split
  · omega
  · rename_i h0 h1 h2 h3 h4 h5
    exfalso
    omega

/-- the bound at each level: ten times that of the next. -/
theorem ex_size : ∀ (m : Nat) (t : Ex) (d : Nat), 10 < d + m → exFault t d = 0 → (exShown t).length ≤ 20 * 10 ^ m := by
  intro m
  induction m with
  | zero =>
    rintro ⟨k, n, o, s, xs⟩ d hd h
    have := (ex_ok h).1
    omega
  | succ m ih =>
    rintro ⟨k, n, o, s, xs⟩ d hd h
    obtain ⟨_, hk, h8, _, hnf, hcf, hr, hx⟩ := ex_ok h
    have each : ∀ j (hj : j < xs.length), (exShown xs[j]).length ≤ 20 * 10 ^ m := fun j hj => ih _ (d + 1) (by omega) (exs_at hx j hj)
    have hj : (exJoin xs).length ≤ 8 * (20 * 10 ^ m + 2) := by
      rw [← exTo_all]
      refine Nat.le_trans (exTo_size xs _ each xs.length (Nat.le_refl _)) (Nat.mul_le_mul_right _ h8)
    have hf : (exFst xs).length ≤ 20 * 10 ^ m := by
      cases xs with
      | nil => simp [exFst]
      | cons t r => exact each 0 (by simp)
    have hs : (exSnd xs).length ≤ 20 * 10 ^ m := by
      match xs, each with
      | [], _ => simp [exSnd]
      | [t], _ => simp [exSnd, exFst]
      | t :: u :: r, each => exact each 1 (by simp)
    have hp : 1 ≤ 10 ^ m := Nat.one_le_iff_ne_zero.2 (by simp)
    have e10 : 20 * 10 ^ (m + 1) = 200 * 10 ^ m := by rw [Nat.pow_succ]; omega
    rw [e10]
    generalize 10 ^ m = p at *
    rw [exShown]
    by_cases h1 : k = 1
    · have := num_size hr
      simp only [if_pos h1]; omega
    by_cases h2 : k = 2
    · subst h2
      have hnf' : (quoteOk s && noneB o) = true := hnf
      simp only [Bool.and_eq_true] at hnf'
      have := quote_size hnf'.1
      simp only [if_neg h1, if_pos, List.length_append, List.length_cons, List.length_nil]; omega
    by_cases h3 : k = 3
    · subst h3
      have hnf' : (identOk s && noneB o) = true := hnf
      simp only [Bool.and_eq_true] at hnf'
      have := ident_size hnf'.1
      simp only [if_neg h1, if_neg h2, if_pos]; omega
    by_cases h4 : k = 4
    · subst h4
      have hnf' : (identOk s && noneOrIdent o) = true := hnf
      simp only [Bool.and_eq_true] at hnf'
      have := name_size hnf'.2 hnf'.1
      simp only [if_neg h1, if_neg h2, if_neg h3, if_pos, List.length_append, List.length_cons, List.length_nil]; omega
    by_cases h5 : k = 5
    · simp only [if_neg h1, if_neg h2, if_neg h3, if_neg h4, if_pos h5, List.length_append, List.length_cons, List.length_nil]; omega
    by_cases h6 : k = 6
    · simp only [if_neg h1, if_neg h2, if_neg h3, if_neg h4, if_neg h5, if_pos h6, List.length_append, List.length_cons, List.length_nil]; omega
    · simp only [if_neg h1, if_neg h2, if_neg h3, if_neg h4, if_neg h5, if_neg h6, List.length_append, List.length_cons, List.length_nil]; omega

theorem fd_size {f : Fd} (h : fdFault f = 0) : (fdShown f).length ≤ 47 := by
  unfold fdFault at h
  split at h
  · rename_i hi
    have h1 := ident_size hi
    have h2 := ty_size 10 f.is 1 (by omega) h
    simp only [fdShown, List.length_append, List.length_cons, List.length_nil]; omega
  · omega

theorem fdTo_size (l : List Fd) (h : ∀ j (hj : j < l.length), fdFault l[j] = 0) : ∀ k, k ≤ l.length → (fdTo l k).length ≤ 49 * k
  | 0, _ => by simp [fdTo]
  | k + 1, hk => by
    have ih := fdTo_size l h k (by omega)
    have := fd_size (h k (by omega))
    rw [fdTo, List.getElem?_eq_getElem (by omega)]
    simp only [Option.elim, List.length_append]
    split
    · simp only [List.length_nil]; omega
    · simp only [List.length_cons, List.length_nil]; omega

theorem fu_ok {f : Fu} (h : fuFault f = 0) : identOk f.name = true ∧ noneOrIdent f.var = true ∧ f.params.length ≤ 8 ∧ (∀ j (hj : j < f.params.length), fdFault f.params[j] = 0) ∧ tyFault f.result 1 = 0 ∧ exFault f.body 1 = 0 := by
  unfold fuFault at h
  split at h
  · omega
  split at h
  · omega
  split at h
  · rename_i h1; exact absurd h h1
  split at h
  · rename_i h1; exact absurd h h1
  rename_i h1 h2 h3 h4
  refine ⟨?_, ?_, by omega, firstBad_all _ _ (by simpa using h3), by simpa using h4, h⟩
  · cases hn : identOk f.name with
    | true => rfl
    | false => exact absurd (Or.inl hn) h1
  · cases hn : noneOrIdent f.var with
    | true => rfl
    | false => exact absurd (Or.inr hn) h1

theorem fu_size {f : Fu} (h : fuFault f = 0) : (funLine f).length ≤ 200000000500 := by
  obtain ⟨h1, h2, h3, h4, h5, h6⟩ := fu_ok h
  have a1 := ident_size h1
  have a2 := noneOr_size h2
  have a3 := fdTo_size f.params h4 f.params.length (Nat.le_refl _)
  have a4 := ty_size 10 f.result 1 (by omega) h5
  have a5 := ex_size 10 f.body 1 (by omega) h6
  have a6 : (varShown f.var).length ≤ 10 := by
    unfold varShown
    split
    · simp
    · simp only [List.length_append, List.length_cons, List.length_nil]; omega
  have e : 20 * 10 ^ 10 = 200000000000 := by decide
  rw [e] at a5
  simp only [funLine, fuShown, List.length_append, List.length_cons, List.length_nil]
  omega

theorem lines_size {α : Type} (g : α → List UInt8) (b : Nat) (l : List α) (h : ∀ j (hj : j < l.length), (g l[j]).length ≤ b) : ∀ k, k ≤ l.length → (linesTo g l k).length ≤ k * b
  | 0, _ => by simp [linesTo]
  | k + 1, hk => by
    have ih := lines_size g b l h k (by omega)
    have := h k (by omega)
    rw [linesTo, List.getElem?_eq_getElem (by omega)]
    simp only [Option.elim, List.length_append]
    have e : (k + 1) * b = k * b + b := Nat.succ_mul k b
    omega

theorem mo_ok {m : Mo} (h : moFault m = 0) : ¬ 24 < wrap64 (wrap64 ((m.uses.length : Int) + m.types.length) + m.funcs.length) ∧ (∀ j (hj : j < m.uses.length), identOk m.uses[j] = true) ∧ (∀ j (hj : j < m.types.length), fdFault m.types[j] = 0) ∧ (∀ j (hj : j < m.funcs.length), fuFault m.funcs[j] = 0) := by
  unfold moFault at h
  split at h
  · omega
  split at h
  · rename_i h1; exact absurd h h1
  split at h
  · rename_i h1; exact absurd h h1
  rename_i h0 h1 h2
  refine ⟨h0, fun j hj => ?_, firstBad_all _ _ (by simpa using h2), firstBad_all _ _ h⟩
  have := firstBad_all useFault m.uses (by simpa using h1) j hj
  unfold useFault at this
  split at this
  · assumption
  · omega

end Go.Proofs.YtieoddnaknpmlabGreatDoor

/- What strings.Builder's WriteString and String, and the printer's write, comma and name do, at a printer that the call itself has made: its bytes grow by what is written; nothing below it turns. -/
namespace Go.Proofs.YtieoddnaknpmlabGreatDoor
open Go.RowKit
set_option maxRecDepth 100000

theorem sizeBuilder : (Tryz.prog.info? 68).map (·.size) = some 2 := by kernel_rfl
theorem liesBuilder : liesAt Tryz.prog Tryz.prog.depth 70 (2 / Tryz.prog.cellsOf 70) 0 68 1 = true := by kernel_rfl
theorem infoByte : (Tryz.prog.info? 5).map (fun i => (i.zero, i.size, i.bytes)) = some (some (.int .u8 0), 1, 1) := by kernel_rfl

set_option maxHeartbeats 400000 in
set_option maxRecDepth 100000 in
theorem check_used (b : Nat) (w : World) (h0 : w.cell? ⟨b, 0, none⟩ = some (.pointer (some ⟨b, 0, none⟩))) :
    Calls Tryz.prog 88 #[.pointer (some ⟨b, 0, none⟩)] w fun e w' => e = .returned (.tuple #[]) ∧ w = w' := by
  obtain ⟨j, hj, _⟩ := Option.map_eq_some_iff.1 sizeBuilder
  go_enter Tryz.func88, Tryz.ntmps88
  go_wp2
  rw [Lib.run_neq_ptr_same w _ Tryz.underlying65 hj]
  go_wp2
  go_end0
  exact ⟨rfl, rfl⟩

set_option maxHeartbeats 400000 in
set_option maxRecDepth 100000 in
theorem check_fresh (b : Nat) (w : World) (h0 : w.cell? ⟨b, 0, none⟩ = some (.pointer none)) (hsh : w.shape? b = some (70, 2)) (hfz : w.frozen? ⟨b, 0, none⟩ = false) :
    Calls Tryz.prog 88 #[.pointer (some ⟨b, 0, none⟩)] w fun e w' => e = .returned (.tuple #[]) ∧ w.setCell ⟨b, 0, none⟩ (.pointer (some ⟨b, 0, none⟩)) = w' := by
  obtain ⟨j, hj, hjs⟩ := Option.map_eq_some_iff.1 sizeBuilder
  go_enter Tryz.func88, Tryz.ntmps88
  go_wp2
  rw [Lib.run_to_unsafe w ⟨b, 0, none⟩ Tryz.underlying65 Tryz.underlying147 hj (by rw [hjs]; decide) hsh (Nat.zero_lt_succ 1)]
  simp only [Result.andThen]
  rw [Oper.upon_value]
  go_wp2
  rw [run_callFunc_extern Tryz.func121 (by kernel_rfl) (by kernel_rfl) (by kernel_rfl) (e := Extern.AbiNoEscape.same) (by kernel_rfl), Lib.run_noEscape]
  simp only [Result.andThen]
  rw [Oper.upon_value]
  go_wp2
  rw [Lib.run_from_unsafe w ⟨b, 0, none⟩ Tryz.underlying147 Tryz.underlying65 hj hsh liesBuilder]
  simp only [Result.andThen]
  rw [Oper.upon_value]
  go_wp2
  go_end0
  exact ⟨rfl, rfl⟩

theorem copyCheck_any (B b : Nat) (bs : List Value) (w : World) (h : Lib.IsBuilder 70 5 B b bs w) :
    Calls Tryz.prog 88 #[.pointer (some ⟨b, 0, none⟩)] w fun e w' => e = .returned (.tuple #[]) ∧ Lib.BuilderAt 70 5 B b (.pointer (some ⟨b, 0, none⟩)) bs w' ∧ Below B w w' ∧ w'.heap.size = w.heap.size ∧ ∀ c, c ≠ b → w'.heap[c]? = w.heap[c]? := by
  rcases h with h | h
  · refine (check_fresh b w h.cell0 h.shape h.frozen0).mono ?_
    rintro e w' ⟨rfl, rfl⟩
    exact ⟨rfl, h.used _, (Below.refl B w).setCell (p := ⟨b, 0, none⟩) h.1 _, by simp, fun c hc => Below.heap_setCell _ _ _ _ hc⟩
  · refine (check_used b w h.cell0).mono ?_
    rintro e w' ⟨rfl, rfl⟩
    exact ⟨rfl, h, Below.refl B _, rfl, fun _ _ => rfl⟩

/-- the blocks that a writing method leaves alone: all that are neither the builder's own nor a row of bytes. -/
def KeptBut (b : Nat) (w w' : World) : Prop := ∀ c x t fz, c ≠ b → t ≠ 5 → w.heap[c]? = some (.cells x t fz) → w'.heap[c]? = w.heap[c]?

theorem own_other {w : World} {B : Nat} {v : Value} {n : Nat} {bs : List Value} (hown : w.ownsRow B 5 1 v n bs) {c : Nat} {x : Array Value} {t : TypeId} {fz : Nat × Nat} (ht : t ≠ 5) (hc : w.heap[c]? = some (.cells x t fz)) : some c ≠ v.ownBlock := by
  intro h
  obtain ⟨_, ⟨hv, _⟩ | ⟨g, cap, cur, hv, hg, hh, _⟩⟩ := hown
  · rw [hv] at h
    cases h
  · rw [hv] at h
    have e : c = g := by simpa [Value.ownBlock] using h
    rw [e, hh] at hc
    injection hc with hc
    injection hc with _ hc _
    exact ht hc.symm

theorem lt_of_block {w : World} {c : Nat} {o : Obj} (h : w.heap[c]? = some o) : c < w.heap.size := by
  rcases Nat.lt_or_ge c w.heap.size with h' | h'
  · exact h'
  · rw [Array.getElem?_eq_none h'] at h
    cases h

/-- behind an append to the buffer of a builder: the builder's own two cells are as they were; the buffer may be stored. -/
theorem behind_append {B b : Nat} {v : Value} {w1 w2 : World} {n : Nat} {bs : List Value} (hbk : w1.heap[b]? = some (.cells #[.pointer (some ⟨b, 0, none⟩), v] 70 (0, 0))) (hown : w1.ownsRow B 5 1 v n bs)
    (hne : v.ownBlock ≠ some b) (hgrow : w1.grownBy w2 v.ownBlock) :
    w2.heap[b]? = some (.cells #[.pointer (some ⟨b, 0, none⟩), v] 70 (0, 0)) ∧ w2.cell? ⟨b, 0, none⟩ = some (.pointer (some ⟨b, 0, none⟩)) ∧ w2.cell? ⟨b, 1, none⟩ = some v ∧ w2.frozen? ⟨b, 1, none⟩ = false ∧ ∀ k, v.ownBlock = some k → B ≤ k := by
  have hlt : b < w1.heap.size := by
    rcases Nat.lt_or_ge b w1.heap.size with h' | h'
    · exact h'
    · simp [Array.getElem?_eq_none h'] at hbk
  have hb2 : w2.heap[b]? = some (.cells #[.pointer (some ⟨b, 0, none⟩), v] 70 (0, 0)) := by
    rw [hgrow.block b hlt (fun e => hne e.symm)]
    exact hbk
  exact ⟨hb2, by rw [Lib.cell_of_heap hb2]; rfl, by rw [Lib.cell_of_heap hb2]; rfl, Lib.frozen_of_heap hb2 1, fun k hk => (hown.lt k hk).1⟩

set_option maxHeartbeats 1000000 in
theorem writeString_any (B b : Nat) (bs : List Value) (s : ByteArray) (w : World) (h : Lib.IsBuilder 70 5 B b bs w) (hlen : bs.length + s.size ≤ 140737488355328) (hBw : B ≤ w.heap.size) :
    Calls Tryz.prog 54 #[.pointer (some ⟨b, 0, none⟩), .string s] w fun e w' =>
      e = .returned (.tuple #[.int .i64 s.size, .nilIface]) ∧ Lib.IsBuilder 70 5 B b (bs ++ Lib.strCells s) w' ∧ Below B w w' ∧ KeptBut b w w' := by
  obtain ⟨i0, hi, hz0, hz1, hz2⟩ := info_parts infoByte
  go_enter Tryz.func54, Tryz.ntmps54
  go_wp2_with (go_at_call 88; refine (copyCheck_any B b bs _ h).mono ?_)
  rintro e w1 ⟨rfl, ⟨hB, v, hbk, hown, hne⟩, hb1, hsz1, hk1⟩
  have HK1 := veil hk1
  have HZ1 := veil hsz1
  clear hk1 hsz1
  have hs1 := hb1.size
  have c0 : w1.cell? ⟨b, 0, none⟩ = some (.pointer (some ⟨b, 0, none⟩)) := by rw [Lib.cell_of_heap hbk]; rfl
  have c1 : w1.cell? ⟨b, 1, none⟩ = some v := by rw [Lib.cell_of_heap hbk]; rfl
  go_wp2_with (at_builtin; refine Lib.wpList_append_own_string _ rfl _ _ 66 9 rfl B 5 i0 Tryz.underlying66 Tryz.underlying9 hi hz0 hz1 hz2 _ _ _ rfl hown s rfl ?c3 ?c4 ?c5 ?_)
  case c3 => unfold maxLen; omega
  case c4 => omega
  case c5 => omega
  intro v' w2 hown' hgrow _
  obtain ⟨hb2, d0, d1, f1, hrow⟩ := behind_append hbk hown hne hgrow
  obtain ⟨ao, n', cap, rfl⟩ : ∃ ao n' cap, v' = .slice ao n' cap := by
    rcases hown'.2 with ⟨hv, _⟩ | ⟨g, cap, cur, hv, _⟩
    · exact ⟨_, _, _, hv⟩
    · exact ⟨_, _, _, hv⟩
  go_wp2
  go_ret2
  refine ⟨rfl, Or.inr ?_, ?_, ?_⟩
  · exact Lib.BuilderAt.put (T := 70) (e := 5) hB hb2 (bs' := bs ++ Lib.strCells s) (by simpa [Lib.strCells_length] using hown') (by decide)
  · exact (hb1.grown hgrow (by omega) hrow).setCell (p := ⟨b, 1, none⟩) hB _
  · intro c x t fz hc ht hx
    have h1 := HK1.out c hc
    have hx1 := h1.trans hx
    rw [Below.heap_setCell _ _ _ _ hc, hgrow.block c (lt_of_block hx1) (own_other hown ht hx1), h1]


theorem builder_below {T e : TypeId} {B b : Nat} {bs : List Value} {w w' : World} (h : Lib.IsBuilder T e B b bs w) (hb : Below w.heap.size w w') : Lib.IsBuilder T e B b bs w' := by
  have one : ∀ p, Lib.BuilderAt T e B b p bs w → Lib.BuilderAt T e B b p bs w' := by
    rintro p hp
    have hlt := hp.lt
    obtain ⟨hB, v, hbk, hown, hne⟩ := hp
    refine ⟨hB, v, ?_, ?_, hne⟩
    · rw [hb.block b hlt]; exact hbk
    · obtain ⟨hx, h | ⟨g, cap, cur, hv, hg, hh, h1, h2, h3, h4⟩⟩ := hown
      · exact ⟨hx, Or.inl h⟩
      · refine ⟨hx, Or.inr ⟨g, cap, cur, hv, hg, ?_, h1, h2, h3, h4⟩⟩
        rw [hb.block g (lt_of_block hh)]
        exact hh
  rcases h with h | h
  · exact Or.inl (one _ h)
  · exact Or.inr (one _ h)

theorem builder_lt {T e : TypeId} {B b : Nat} {bs : List Value} {w : World} (h : Lib.IsBuilder T e B b bs w) : B ≤ b ∧ b < w.heap.size := by
  rcases h with h | h
  · exact ⟨h.1, h.lt⟩
  · exact ⟨h.1, h.lt⟩

def textOf (l : List UInt8) : ByteArray := ⟨l.toArray⟩
theorem textOf_data (t : ByteArray) : textOf t.data.toList = t := by cases t; simp [textOf]
theorem textOf_append (a b : List UInt8) : textOf a ++ textOf b = textOf (a ++ b) := by
  apply ByteArray.ext
  simp [textOf, ByteArray.data_append]
theorem textOf_size (a : List UInt8) : (textOf a).size = a.length := rfl
theorem byteCells_snoc (a : List UInt8) (s : ByteArray) : Lib.byteCells a ++ Lib.strCells s = Lib.byteCells (a ++ s.data.toList) := by
  simp [Lib.byteCells, Lib.strCells]

/-- the printer b has written these bytes. -/
def Wrote (B b : Nat) (l : List UInt8) (w : World) : Prop := Lib.IsBuilder 70 5 B b (Lib.byteCells l) w

theorem Wrote.below {B b : Nat} {l : List UInt8} {w w' : World} (h : Wrote B b l w) (hb : Below w.heap.size w w') : Wrote B b l w' := builder_below h hb

/-- from w to w' nothing has turned but the printer b and rows of bytes from B on. -/
structure Went (B b : Nat) (w w' : World) : Prop where
  below : Below B w w'
  kept : KeptBut b w w'

theorem Went.refl (B b : Nat) (w : World) : Went B b w w := ⟨Below.refl _ _, fun _ _ _ _ _ _ _ => rfl⟩
theorem Went.trans {B b : Nat} {w w' w'' : World} (h : Went B b w w') (h' : Went B b w' w'') : Went B b w w'' :=
  ⟨h.below.trans h'.below, fun c x t fz hc ht hx => (h'.kept c x t fz hc ht ((h.kept c x t fz hc ht hx).trans hx)).trans (h.kept c x t fz hc ht hx)⟩
theorem Went.of_below {B b : Nat} {w w' : World} (h : Below w.heap.size w w') (hB : B ≤ w.heap.size) : Went B b w w' := ⟨h.mono hB, fun c _ _ _ _ _ hx => h.block c (lt_of_block hx)⟩
theorem Went.alloc {B b : Nat} {w w' : World} (h : Went B b w w') (hB : B ≤ w'.heap.size) (o : Obj) : Went B b w (w'.alloc o) := h.trans (Went.of_below ((Below.refl _ _).alloc (Nat.le_refl _) o) hB)
/-- a box that was there reads as it did. -/
theorem Went.cell {B b : Nat} {w w' : World} (h : Went B b w w') {c : Nat} {x : Array Value} {t : TypeId} {fz : Nat × Nat} (hx : w.heap[c]? = some (.cells x t fz)) (hc : c ≠ b) (ht : t ≠ 5) (o : Nat) : w'.cell? ⟨c, o, none⟩ = x[o]? := by
  rw [World.cell?_of_block (h.kept c x t fz hc ht hx), Lib.cell_of_heap hx]

/-- the strings of a row, one behind the other. -/
def joined (ss : List ByteArray) : Nat → List UInt8
  | 0 => []
  | k + 1 => joined ss k ++ (ss[k]?).elim [] (fun s => s.data.toList)

theorem joined_le (ss : List ByteArray) : ∀ k j, k ≤ j → (joined ss k).length ≤ (joined ss j).length
  | k, 0, h => by have : k = 0 := by omega
                  subst this; exact Nat.le_refl _
  | k, j + 1, h => by
    by_cases e : k = j + 1
    · subst e; exact Nat.le_refl _
    · have := joined_le ss k j (by omega)
      simp only [joined, List.length_append]; omega

set_option maxHeartbeats 2000000 in
theorem write_any (B b r : Nat) (l : List UInt8) (ss : List ByteArray) (w : World) (h : Wrote B b l w) (hr : w.heap[r]? = some (.cells (ss.map Value.string).toArray 9 (0, 0))) (hrb : r ≠ b) (hn : ss.length < 100)
    (hlen : l.length + (joined ss ss.length).length ≤ 140737488355328) :
    Calls Tryz.prog 24 #[.pointer (some ⟨b, 0, none⟩), .slice (some ⟨r, 0, none⟩) ss.length ss.length] w fun e w' => e = .returned (.tuple #[]) ∧ Wrote B b (l ++ joined ss ss.length) w' ∧ Went B b w w' := by
  have HH := veil h
  have HR := veil hr
  have hrw := lt_of_block hr
  clear h hr
  go_enter Tryz.func24, Tryz.ntmps24
  go_wp2_with fail
  go_loopw [8] (fun i wr => ∃ k : Nat, k ≤ ss.length ∧ i = .int .i64 k ∧ Wrote B b (l ++ joined ss k) wr ∧ Went B b w wr) (fun i _ => ss.length - (intOf i).toNat)
  case atStart => exact ⟨0, Nat.zero_le _, rfl, by simpa [joined] using HH.out, Went.refl _ _ _⟩
  case round =>
    obtain ⟨k, hk, rfl, hwr, hwe⟩ := hrel
    have HW := veil hwr
    have HE := veil hwe
    clear hwr hwe
    by_cases hlt : k < ss.length
    · have c0 : wr.cell? ⟨r, k, none⟩ = some (.string ss[k]) := by
        rw [HE.out.cell HR.out hrb (by decide)]
        simp [hlt]
      have HJ : Hid (joined ss (k + 1) = joined ss k ++ ss[k].data.toList) := by show _ = _; rw [joined, List.getElem?_eq_getElem hlt]; rfl
      have HL := veil (joined_le ss (k + 1) ss.length hlt)
      generalize ss[k] = sk at *
      go_wp2_with fail
      refine (writeString_any B b _ sk wr HW.out ?_ ?_).mono ?_
      · have h1 := HL.out
        rw [HJ.out] at h1
        have h2 : sk.data.toList.length = sk.size := rfl
        rw [Lib.byteCells_length, List.length_append]
        rw [List.length_append] at h1
        omega
      · have := builder_lt HW.out
        omega
      rintro e w' ⟨rfl, hb', hl', hk'⟩
      rw [byteCells_snoc, List.append_assoc, ← HJ.out] at hb'
      have HW' : Hid (Wrote B b (l ++ joined ss (k + 1)) w') := hb'
      have HE' : Hid (Went B b w w') := HE.out.trans ⟨hl', hk'⟩
      clear hb' hl' hk'
      go_wp2_with fail
      exact ⟨⟨k + 1, by omega, by go_num, HW'.out, HE'.out⟩, by simp [intOf]; omega⟩
    · have hkl : k = ss.length := by omega
      subst hkl
      go_wp2_with fail
      go_end0
      exact ⟨rfl, HW.out, HE.out⟩

/-- .. where the row is new. -/
theorem write_new (B b : Nat) (l : List UInt8) (ss : List ByteArray) (w : World) (vs : Array Value) (n r : Nat) (hr : r = w.heap.size) (hvs : vs = (ss.map Value.string).toArray) (hn0 : n = ss.length) (out : List UInt8) (h : Wrote B b l w) (hn : ss.length < 100) (hout : joined ss ss.length = out)
    (hlen : l.length + out.length ≤ 140737488355328) :
    Calls Tryz.prog 24 #[.pointer (some ⟨b, 0, none⟩), .slice (some ⟨r, 0, none⟩) n n] (w.alloc (.cells vs 9)) fun e w' => e = .returned (.tuple #[]) ∧ Wrote B b (l ++ out) w' ∧ Went B b w w' := by
  subst hvs hn0 hout hr
  have hlt := builder_lt h
  refine (write_any B b w.heap.size l ss _ (h.below ((Below.refl _ _).alloc (Nat.le_refl _) _)) (heap_alloc_new w _) (by omega) hn hlen).mono ?_
  rintro e w' ⟨rfl, h1, h2⟩
  exact ⟨rfl, h1, (Went.of_below ((Below.refl _ _).alloc (Nat.le_refl _) _) (by omega)).trans h2⟩

set_option maxHeartbeats 400000 in
theorem comma_any (B b k : Nat) (l : List UInt8) (w : World) (h : Wrote B b l w) (hlen : k ≠ 0 → l.length + 2 ≤ 140737488355328) :
    Calls Tryz.prog 56 #[.pointer (some ⟨b, 0, none⟩), .int .i64 k] w fun e w' => e = .returned (.tuple #[]) ∧ Wrote B b (l ++ if k = 0 then [] else [44, 32]) w' ∧ Went B b w w' := by
  have HH := veil h
  clear h
  by_cases hk : k = 0
  · have hk' : ¬ (0 : Int) < (k : Int) := by omega
    rw [if_pos hk, List.append_nil]
    clear hk
    go_enter Tryz.func56, Tryz.ntmps56
    go_wp2_with fail
    go_end0
    exact ⟨rfl, HH.out, Went.refl _ _ _⟩
  · have hk' : (0 : Int) < (k : Int) := by omega
    have hlen := hlen hk
    rw [if_neg hk]
    clear hk
    go_enter Tryz.func56, Tryz.ntmps56
    go_wp2_with fail
    refine (write_new B b l [⟨#[44, 32]⟩] w _ _ _ (by simp) rfl rfl [44, 32] HH.out (by decide) rfl hlen).mono ?_
    rintro e w' ⟨rfl, h1, h2⟩
    go_wp2_with fail
    go_end0
    exact ⟨rfl, h1, h2⟩

set_option maxHeartbeats 400000 in
theorem name_any (B b : Nat) (o n : ByteArray) (l : List UInt8) (w : World) (h : Wrote B b l w) (hlen : l.length + (nameShown o n).length ≤ 140737488355328) :
    Calls Tryz.prog 55 #[.pointer (some ⟨b, 0, none⟩), .string o, .string n] w fun e w' => e = .returned (.tuple #[]) ∧ Wrote B b (l ++ nameShown o n) w' ∧ Went B b w w' := by
  have HH := veil h
  clear h
  have HT := veil (text_eq o [])
  cases ho : (o.toList == [])
  · have hs : nameShown o n = o.data.toList ++ ([46] ++ n.data.toList) := if_neg (by rw [noneB, ← HT.out, ho]; simp)
    rw [hs] at hlen ⊢
    simp only [List.length_append, List.length_cons, List.length_nil] at hlen
    clear hs HT
    go_enter Tryz.func55, Tryz.ntmps55
    go_wp2_with fail
    refine (write_new B b l [o, ⟨#[46]⟩] w _ _ _ (by simp) rfl rfl (o.data.toList ++ [46]) HH.out (by simp) (by simp [joined]) (by simp only [List.length_append, List.length_cons, List.length_nil]; omega)).mono ?_
    rintro e w1 ⟨rfl, h1, h2⟩
    have HW1 := veil h1
    have HE1 := veil h2
    clear h1 h2
    go_wp2_with fail
    refine (write_new B b _ [n] w1 _ _ _ (by simp) rfl rfl n.data.toList HW1.out (by simp) (by simp [joined]) (by simp only [List.length_append, List.length_cons, List.length_nil]; omega)).mono ?_
    rintro e w2 ⟨rfl, h1, h2⟩
    go_wp2_with fail
    go_end0
    exact ⟨rfl, by simpa [List.append_assoc] using h1, HE1.out.trans h2⟩
  · have hs : nameShown o n = n.data.toList := if_pos (by rw [noneB, ← HT.out, ho])
    rw [hs] at hlen ⊢
    clear hs HT
    go_enter Tryz.func55, Tryz.ntmps55
    go_wp2_with fail
    refine (write_new B b l [n] w _ _ _ (by simp) rfl rfl n.data.toList HH.out (by simp) (by simp [joined]) hlen).mono ?_
    rintro e w2 ⟨rfl, h1, h2⟩
    go_wp2_with fail
    go_end0
    exact ⟨rfl, h1, h2⟩

end Go.Proofs.YtieoddnaknpmlabGreatDoor

/- What strings.Builder's String answers, at a printer that the call itself has made: its bytes. -/
namespace Go.Proofs.YtieoddnaknpmlabGreatDoor
open Go.RowKit
set_option maxRecDepth 100000

theorem cellsByte : Tryz.prog.cellsOf 5 = 1 := by kernel_rfl

set_option maxHeartbeats 2000000 in
set_option maxRecDepth 100000 in
theorem string_row (B b g cap : Nat) (p : Value) (l : List UInt8) (cur : Array Value) (w : World) (h0 : l ≠ []) (hbk : w.heap[b]? = some (.cells #[p, .slice (some ⟨g, 0, none⟩) l.length cap] 70 (0, 0))) (hbg : B ≤ g)
    (hg : w.heap[g]? = some (.cells cur 5 (0, 0))) (hnc : l.length ≤ cap) (hcm : cap ≤ maxLen) (hcs : cur.size = cap * 1) (hown : w.ownsRow B 5 1 (.slice (some ⟨g, 0, none⟩) l.length cap) l.length (Lib.byteCells l)) :
    Calls Tryz.prog 27 #[.pointer (some ⟨b, 0, none⟩)] w fun e w' => e = .returned (.string (textOf l)) ∧ Below B w w' := by
  have hl0 : l.length ≠ 0 := by simpa using h0
  have c1 : w.drew.cell? ⟨b, 1, none⟩ = some (.slice (some ⟨g, 0, none⟩) l.length cap) := by
    have : w.drew.heap[b]? = some (.cells #[p, .slice (some ⟨g, 0, none⟩) l.length cap] 70 (0, 0)) := hbk
    rw [Lib.cell_of_heap this]; rfl
  have hSD : (Builtin.unsafeSliceData_ #[66] 112 #[.slice (some ⟨g, 0, none⟩) l.length cap]).run Tryz.prog w.drew = .ok (.pointer (some ⟨g, 0, none⟩)) w.drew :=
    Lib.run_unsafeSliceData_row _ _ _ _ _ _ (by omega)
  have hUS : (Builtin.unsafeString_ #[112, 3] 9 #[.pointer (some ⟨g, 0, none⟩), .int .i64 l.length]).run Tryz.prog w.drew = .ok (.string ⟨l.toArray⟩) (w.drew.freeze ⟨g, 0, none⟩ l.length) := by
    refine Lib.run_unsafeString_row w.drew 112 3 9 5 Tryz.underlying112 cellsByte g cur.size (by have hg' : w.drew.heap[g]? = some (.cells cur 5 (0, 0)) := hg; simp [World.shape?, hg']) l h0 (by omega) (by unfold maxLen at hcm; omega) ?_
    intro j x hx
    exact hown.cells (g := g) rfl j (.int .u8 x.toNat) (by simp [Lib.byteCells, hx])
  clear hown hcs hnc hl0
  go_enter Tryz.func27, Tryz.ntmps27
  go_wp2_with fail
  go_region
  all_goals (go_wp2_with fail; go_ret; exact ⟨rfl, Lib.below_freeze (Below.drew (Below.refl B w)) (p := ⟨g, 0, none⟩) hbg _⟩)

set_option maxHeartbeats 2000000 in
set_option maxRecDepth 100000 in
theorem string_nil (B b : Nat) (p : Value) (w : World) (hbk : w.heap[b]? = some (.cells #[p, .slice none 0 0] 70 (0, 0))) :
    Calls Tryz.prog 27 #[.pointer (some ⟨b, 0, none⟩)] w fun e w' => e = .returned (.string (textOf [])) ∧ Below B w w' := by
  have hUS : ∀ (W : World) (q : Option Addr), (Builtin.unsafeString_ #[112, 3] 9 #[.pointer q, .int .i64 0]).run Tryz.prog W = .ok (.string .empty) W := fun W q => Lib.run_unsafeString_none W _ _ _ q
  have c1 : w.drew.cell? ⟨b, 1, none⟩ = some (.slice none 0 0) := by
    have : w.drew.heap[b]? = some (.cells #[p, .slice none 0 0] 70 (0, 0)) := hbk
    rw [Lib.cell_of_heap this]; rfl
  have hSD : (Builtin.unsafeSliceData_ #[66] 112 #[.slice none 0 0]).run Tryz.prog w.drew = .ok (.pointer none) w.drew := rfl
  go_enter Tryz.func27, Tryz.ntmps27
  go_wp2_with fail
  go_region
  all_goals (go_wp2_with fail; go_ret; exact ⟨rfl, Below.drew (Below.refl B w)⟩)

set_option maxHeartbeats 2000000 in
set_option maxRecDepth 100000 in
theorem string_room (B b g cap : Nat) (p : Value) (w : World) (hc0 : cap ≠ 0) (hbk : w.heap[b]? = some (.cells #[p, .slice (some ⟨g, 0, none⟩) 0 cap] 70 (0, 0))) :
    Calls Tryz.prog 27 #[.pointer (some ⟨b, 0, none⟩)] w fun e w' => e = .returned (.string (textOf [])) ∧ Below B w w' := by
  have hUS : ∀ (W : World) (q : Option Addr), (Builtin.unsafeString_ #[112, 3] 9 #[.pointer q, .int .i64 0]).run Tryz.prog W = .ok (.string .empty) W := fun W q => Lib.run_unsafeString_none W _ _ _ q
  have c1 : w.drew.cell? ⟨b, 1, none⟩ = some (.slice (some ⟨g, 0, none⟩) 0 cap) := by
    have : w.drew.heap[b]? = some (.cells #[p, .slice (some ⟨g, 0, none⟩) 0 cap] 70 (0, 0)) := hbk
    rw [Lib.cell_of_heap this]; rfl
  have hSD : (Builtin.unsafeSliceData_ #[66] 112 #[.slice (some ⟨g, 0, none⟩) 0 cap]).run Tryz.prog w.drew = .ok (.pointer (some ⟨g, 0, none⟩)) w.drew :=
    Lib.run_unsafeSliceData_row _ _ _ _ _ _ hc0
  clear hc0
  go_enter Tryz.func27, Tryz.ntmps27
  go_wp2_with fail
  go_region
  all_goals (go_wp2_with fail; go_ret; exact ⟨rfl, Below.drew (Below.refl B w)⟩)

set_option maxHeartbeats 2000000 in
set_option maxRecDepth 100000 in
theorem string_noroom (B b g : Nat) (p : Value) (cur : Array Value) (w : World) (hBw : B ≤ w.heap.size) (hbk : w.heap[b]? = some (.cells #[p, .slice (some ⟨g, 0, none⟩) 0 0] 70 (0, 0))) (hg : w.heap[g]? = some (.cells cur 5 (0, 0))) :
    Calls Tryz.prog 27 #[.pointer (some ⟨b, 0, none⟩)] w fun e w' => e = .returned (.string (textOf [])) ∧ Below B w w' := by
  have hUS : ∀ (W : World) (q : Option Addr), (Builtin.unsafeString_ #[112, 3] 9 #[.pointer q, .int .i64 0]).run Tryz.prog W = .ok (.string .empty) W := fun W q => Lib.run_unsafeString_none W _ _ _ q
  have hlt : b < w.heap.size := lt_of_block hbk
  have c1 : w.drew.cell? ⟨b, 1, none⟩ = some (.slice (some ⟨g, 0, none⟩) 0 0) := by
    have : w.drew.heap[b]? = some (.cells #[p, .slice (some ⟨g, 0, none⟩) 0 0] 70 (0, 0)) := hbk
    rw [Lib.cell_of_heap this]; rfl
  have hSD : (Builtin.unsafeSliceData_ #[66] 112 #[.slice (some ⟨g, 0, none⟩) 0 0]).run Tryz.prog w.drew = .ok (.pointer (some ⟨w.drew.heap.size, 0, none⟩)) (w.drew.alloc (.view ⟨g, 0, none⟩ 5)) :=
    Lib.run_unsafeSliceData_zero w.drew _ _ 5 Tryz.underlying112 ⟨g, 0, none⟩ 0 (5, cur.size) (by have hg' : w.drew.heap[g]? = some (.cells cur 5 (0, 0)) := hg; simp [World.shape?, hg'])
  have c2 : (w.drew.alloc (.view ⟨g, 0, none⟩ 5)).cell? ⟨b, 1, none⟩ = some (.slice (some ⟨g, 0, none⟩) 0 0) := by
    have : (w.drew.alloc (.view ⟨g, 0, none⟩ 5)).heap[b]? = _ := (Lib.alloc_old w.drew _ b hlt).trans hbk
    rw [Lib.cell_of_heap this]; rfl
  have c3 : (w.alloc (.view ⟨g, 0, none⟩ 5)).drew.cell? ⟨b, 1, none⟩ = some (.slice (some ⟨g, 0, none⟩) 0 0) := c2
  have c0 : w.cell? ⟨b, 1, none⟩ = some (.slice (some ⟨g, 0, none⟩) 0 0) := c1
  go_enter Tryz.func27, Tryz.ntmps27
  go_wp2_with fail
  go_region
  all_goals (go_wp2_with fail; go_ret; exact ⟨rfl, (Below.drew (Below.refl B w)).alloc hBw _⟩)

theorem string_any (B b : Nat) (l : List UInt8) (w : World) (h : Wrote B b l w) : Calls Tryz.prog 27 #[.pointer (some ⟨b, 0, none⟩)] w fun e w' => e = .returned (.string (textOf l)) ∧ Below B w w' := by
  have hlt := builder_lt h
  obtain ⟨p, hB, v, hbk, hown, hne⟩ : ∃ p, Lib.BuilderAt 70 5 B b p (Lib.byteCells l) w := by
    rcases h with h | h
    · exact ⟨_, h⟩
    · exact ⟨_, h⟩
  rw [Lib.byteCells_length] at hown
  by_cases h0 : l = []
  · subst h0
    rcases hown.2 with ⟨rfl, _⟩ | ⟨g, cap, cur, rfl, hbg, hg, _, _, _, _⟩
    · exact string_nil B b p w hbk
    · by_cases hc0 : cap = 0
      · subst hc0
        exact string_noroom B b g p cur w (by omega) hbk hg
      · exact string_room B b g cap p w hc0 hbk
  · rcases hown.2 with ⟨_, hz⟩ | ⟨g, cap, cur, rfl, hbg, hg, hnc, hcm, hcs, _⟩
    · exact absurd (by simpa using hz) h0
    · exact string_row B b g cap p l cur w h0 hbk hbg hg hnc hcm hcs hown

end Go.Proofs.YtieoddnaknpmlabGreatDoor

/- What the printer's typ, and the reference's typeShown, answer, at every type that may be: its text. -/
namespace Go.Proofs.YtieoddnaknpmlabGreatDoor
open Go.RowKit
set_option maxRecDepth 100000

/-! ### A type -/

set_option maxHeartbeats 400000 in
theorem typ_any : ∀ (m d : Nat), 10 < d + m → ∀ (S : Nat → Prop) (B b : Nat) (t : Ty) (v : Value) (l : List UInt8) (w : World), (∀ c, S c → c < B) → TyIs S w t v → tyFault t d = 0 → Wrote B b l w → l.length + (tyShown t).length ≤ 140737488355328 →
    Calls Tryz.prog 25 #[.pointer (some ⟨b, 0, none⟩), v] w fun e w' => e = .returned (.tuple #[]) ∧ Wrote B b (l ++ tyShown t) w' ∧ Went B b w w' := by
  intro m
  induction m with
  | zero =>
    rintro d hd S B b ⟨k, o, n, xs⟩ v l w hS hv hf
    have := (ty_ok hf).1
    omega
  | succ m ih =>
    rintro d hd S B b t v l w hS ⟨k, o, n, va, rfl, xs, rfl, hos, hns, hsl⟩ hf hw hlen
    have HIH := veil ih
    clear ih
    obtain ⟨hd10, hk, hfit, hxs⟩ := ty_ok hf
    have hlt := builder_lt hw
    obtain ⟨a, cap, rfl, ⟨hl, hlC⟩, hrest⟩ := hsl
    have HB : Hid (Went B b w (w.alloc (.cells #[.int .i64 k, .string o, .string n, .slice a xs.length cap] 49))) := Went.of_below ((Below.refl _ _).alloc (Nat.le_refl _) _) (by omega)
    have HW : Hid (Wrote B b l (w.alloc (.cells #[.int .i64 k, .string o, .string n, .slice a xs.length cap] 49))) := hw.below ((Below.refl _ _).alloc (Nat.le_refl _) _)
    have HS : Hid (tyShown (.mk k o n xs) = if k = 1 then [105, 110, 116] else if k = 2 then [116, 101, 120, 116] else if k = 3 then [91] ++ (tyHead xs ++ [93]) else nameShown o n) := by show _ = _; rw [tyShown]
    have HNew := veil (heap_alloc_new w (.cells #[.int .i64 k, .string o, .string n, .slice a xs.length cap] 49))
    have hwb : w.heap.size ≠ b := by omega
    clear hw hf
    by_cases h1 : k = 1
    · subst h1
      rw [if_pos rfl] at HS
      rw [HS.out] at hlen ⊢
      clear HS hrest HIH hxs hfit hk
      go_enter Tryz.func25, Tryz.ntmps25
      go_wp2_with fail
      refine (write_new B b l [⟨#[105, 110, 116]⟩] _ _ _ _ (by simp) rfl rfl [105, 110, 116] HW.out (by decide) rfl hlen).mono ?_
      rintro e w1 ⟨rfl, q1, q2⟩
      go_wp2_with fail
      go_end0
      exact ⟨rfl, q1, HB.out.trans q2⟩
    rw [if_neg h1] at HS
    have h1' : (k == 1) = false := beq_eq_false_iff_ne.2 h1
    by_cases h2 : k = 2
    · subst h2
      rw [if_pos rfl] at HS
      rw [HS.out] at hlen ⊢
      clear HS hrest HIH hxs hfit hk
      go_enter Tryz.func25, Tryz.ntmps25
      go_wp2_with fail
      refine (write_new B b l [⟨#[116, 101, 120, 116]⟩] _ _ _ _ (by simp) rfl rfl [116, 101, 120, 116] HW.out (by decide) rfl hlen).mono ?_
      rintro e w1 ⟨rfl, q1, q2⟩
      go_wp2_with fail
      go_end0
      exact ⟨rfl, q1, HB.out.trans q2⟩
    rw [if_neg h2] at HS
    have h2' : (k == 2) = false := beq_eq_false_iff_ne.2 h2
    by_cases h3 : k = 3
    · subst h3
      rw [if_pos rfl] at HS
      have hc : xs.length = 1 := by
        have hfit' : (xs.length == 1 && (noneB n && noneB o)) = true := hfit
        simp only [Bool.and_eq_true, beq_iff_eq] at hfit'
        exact hfit'.1
      match xs, hc with
      | [t], _ =>
        rcases hrest with h0 | ⟨bb, off, rfl, hb, hrow⟩
        · simp at h0
        have hbw := hS bb hb
        have hty := hrow.get 0 (by simp)
        simp only [Nat.zero_mul, Nat.add_zero, List.getElem_cons_zero] at hty
        obtain ⟨kd, fo, na, va, c0, c1, c2, c3, hcs⟩ := tyAt_cells.1 hty
        obtain ⟨va1, va2, va3, rfl⟩ := hcs.slice
        have ht0 : tyFault t (d + 1) = 0 := tys_at hxs 0 (by simp)
        have HC := veil hcs
        have hh : tyHead [t] = tyShown t := by rw [tyHead]
        rw [HS.out, hh] at hlen ⊢
        simp only [List.length_append, List.length_cons, List.length_nil] at hlen
        clear HS hxs hfit hk hrow hty hcs hh
        simp only [List.length_cons, List.length_nil, Nat.zero_add] at *
        go_enter Tryz.func25, Tryz.ntmps25
        go_wp2_with fail
        refine (write_new B b l [⟨#[91]⟩] _ _ _ _ (by simp) rfl rfl [91] HW.out (by decide) rfl (by simp only [List.length_cons, List.length_nil]; omega)).mono ?_
        rintro e w1 ⟨rfl, q1, q2⟩
        have HW1 := veil q1
        have HB1 := veil (HB.out.trans q2)
        have e3 : w1.cell? ⟨w.heap.size, 3, none⟩ = some (.slice (some ⟨bb, off, none⟩) 1 cap) := q2.cell HNew.out hwb (by decide) 3
        have d0 := (HB1.out.below.cell (p := ⟨bb, off, none⟩) hbw).trans c0
        have d1 := (HB1.out.below.cell (p := ⟨bb, off + 1, none⟩) hbw).trans c1
        have d2 := (HB1.out.below.cell (p := ⟨bb, off + 2, none⟩) hbw).trans c2
        have d3 := (HB1.out.below.cell (p := ⟨bb, off + 3, none⟩) hbw).trans c3
        clear q1 q2 c0 c1 c2 c3
        go_wp2_with fail
        refine (HIH.out (d + 1) (by omega) S B b t _ _ w1 hS ⟨_, _, _, _, rfl, HC.out.keep (Keeps.below HB1.out.below hS)⟩ ht0 HW1.out (by simp only [List.length_append, List.length_cons, List.length_nil]; omega)).mono ?_
        rintro e w2 ⟨rfl, q1, q2⟩
        have HW2 := veil q1
        have HB2 := veil (HB1.out.trans q2)
        clear q1 q2 d0 d1 d2 d3 e3
        go_wp2_with fail
        refine (write_new B b _ [⟨#[93]⟩] w2 _ _ _ (by simp) rfl rfl [93] HW2.out (by decide) rfl (by simp only [List.length_append, List.length_cons, List.length_nil]; omega)).mono ?_
        rintro e w3 ⟨rfl, q1, q2⟩
        go_wp2_with fail
        go_end0
        exact ⟨rfl, by simpa [List.append_assoc] using q1, HB2.out.trans q2⟩
    rw [if_neg h3] at HS
    have h3' : (k == 3) = false := beq_eq_false_iff_ne.2 h3
    have h4 : k = 4 := by simp [isIn] at hk; omega
    subst h4
    rw [HS.out] at hlen ⊢
    clear HS hrest HIH hxs hfit hk h1 h2 h3
    go_enter Tryz.func25, Tryz.ntmps25
    go_wp2_with fail
    refine (name_any B b o n l _ HW.out hlen).mono ?_
    rintro e w1 ⟨rfl, q1, q2⟩
    go_wp2_with fail
    go_end0
    exact ⟨rfl, q1, HB.out.trans q2⟩

end Go.Proofs.YtieoddnaknpmlabGreatDoor
