/- What an expression is (P8.1), plainly: of what its function takes, and of the faces that are looked in. -/
import Derived.Test.YtcpnfkeoajeodaaGreatDoorJUb
import Derived.Test.YtcpnfkeoajeodaaGreatDoorJFaceFunc
import Derived.Test.YtcpnfkeoajeodaaGreatDoorJAm
import Derived.Test.YtcpnfkeoajeodaaGreatDoorJFd
namespace Go.Proofs.YtcpnfkeoajeodaaGreatDoor
open Go.RowKit
set_option maxRecDepth 100000

def noSg : Sg := ⟨⟨#[]⟩, [], ⟨#[]⟩⟩
def badEx (c : Int) : ByteArray × Int := (⟨#[]⟩, c)

/-- what a function's param of that name is. -/
def parAt (ps : List Kn) (s : ByteArray) : Nat := findAt (fun k : Kn => sEq k.name s) ps
def parIs (ps : List Kn) (s : ByteArray) : ByteArray × Int :=
  if parAt ps s < ps.length then (((ps[parAt ps s]?).map Kn.is).getD ⟨#[]⟩, 0) else badEx 6

/-- what comes of what the parts are. -/
def finIs (k : Int) (sg : Sg) (is : List ByteArray) : ByteArray × Int :=
  if k = 4 then (if allErr sg.params is sg.result = 0 then (allVal sg.params is sg.result, 0) else badEx 8)
  else if k = 5 then (if sEq (is.getD 0 .empty) (is.getD 1 .empty) && (sEq (is.getD 0 .empty) intK || sEq (is.getD 0 .empty) textK) then (is.getD 0 .empty, 0) else badEx 8)
  else if k = 6 then (if is.all (fun i => sEq i (is.getD 0 .empty)) then (if listErr (is.getD 0 .empty) = 0 then (wrapK (is.getD 0 .empty), 0) else badEx 8) else badEx 8)
  else if isList (is.getD 0 .empty) && sEq (is.getD 1 .empty) intK then (inner (is.getD 0 .empty), 0) else badEx 8

/-- the parts one by one, then what comes of them. -/
def endIs (k : Int) (sg : Sg) (rs : List (ByteArray × Int)) : ByteArray × Int :=
  if firstBad Prod.snd rs = 0 then finIs k sg (rs.map Prod.fst) else badEx (firstBad Prod.snd rs)

/-- the function that a call names, or what is wrong with that. -/
def callErr (fc : ByteArray → Fc) (o s : ByteArray) (n : Nat) : Int :=
  if funcErr (fc o) s = 0 then (if (funcVal (fc o) s).params.length = n then 0 else 7) else 6

mutual
def exIs (ps : List Kn) (fc : ByteArray → Fc) : Ex → ByteArray × Int
  | .mk k _ o s xs =>
    if k = 1 then (intK, 0) else if k = 2 then (textK, 0) else if k = 3 then parIs ps s else
    if k = 4 then (if callErr fc o s xs.length = 0 then endIs k (funcVal (fc o) s) (exsIs ps fc xs) else badEx (callErr fc o s xs.length))
    else endIs k noSg (exsIs ps fc xs)
def exsIs (ps : List Kn) (fc : ByteArray → Fc) : List Ex → List (ByteArray × Int)
  | [] => []
  | x :: r => exIs ps fc x :: exsIs ps fc r
end

theorem exsIs_map (ps : List Kn) (fc : ByteArray → Fc) : ∀ l : List Ex, exsIs ps fc l = l.map (exIs ps fc)
  | [] => by simp [exsIs]
  | x :: r => by simp only [exsIs, List.map_cons, exsIs_map ps fc r]

theorem exsFault_mem {l : List Ex} {d : Nat} (h : exsFault l d = 0) : ∀ x ∈ l, exFault x d = 0 := by
  rw [exsFault_first] at h
  intro x hx
  obtain ⟨j, hj, rfl⟩ := List.getElem_of_mem hx
  exact firstBad_all _ _ h j hj

theorem firstBad_map {α β : Type} (g : β → Int) (f : α → β) : ∀ l : List α, firstBad g (l.map f) = firstBad (fun x => g (f x)) l
  | [] => rfl
  | x :: r => by simp only [List.map_cons, firstBad, firstBad_map g f r]
theorem endIs_bad {ps : List Kn} {fc : ByteArray → Fc} {k : Int} {sg : Sg} {xs : List Ex} {j : Nat} (hj : j < xs.length) (h : ∀ q (hq : q < j), (exIs ps fc (xs[q]'(by omega))).2 = 0) (hb : (exIs ps fc xs[j]).2 ≠ 0) : endIs k sg (exsIs ps fc xs) = badEx (exIs ps fc xs[j]).2 := by
  have e : firstBad Prod.snd (exsIs ps fc xs) = (exIs ps fc xs[j]).2 := by
    rw [exsIs_map, firstBad_map]
    exact firstBad_at (fun x => (exIs ps fc x).2) xs j hj h hb
  unfold endIs
  rw [e, if_neg hb]
theorem endIs_good {ps : List Kn} {fc : ByteArray → Fc} {k : Int} {sg : Sg} {xs : List Ex} (h : ∀ q (hq : q < xs.length), (exIs ps fc xs[q]).2 = 0) : endIs k sg (exsIs ps fc xs) = finIs k sg (xs.map (fun x => (exIs ps fc x).1)) := by
  have e : firstBad Prod.snd (exsIs ps fc xs) = 0 := by
    rw [exsIs_map, firstBad_map]
    exact firstBad_none (fun x => (exIs ps fc x).2) xs h
  unfold endIs
  rw [e, if_pos rfl, exsIs_map, List.map_map]
  rfl

theorem one_str (w : World) (s : ByteArray) : ∀ j u, ([.string s] : List Value)[j]? = some u → (w.alloc (.cells #[.string s] 9)).cell? ((⟨w.heap.size, 0, none⟩ : Addr).add j) = some u := fun j u h => by
  match j, h with
  | 0, h => cases h; simp [go_sem, Addr.add]
theorem one_strs (s : ByteArray) : ∀ u ∈ ([.string s] : List Value), u.oneCell' = true := fun u hu => by simp at hu; subst hu; rfl

theorem strRow_of {S : Nat → Prop} {w : World} {l : List ByteArray} {v : Value} (h : SlAt S (StrAt w) 1 l v) : StrRow w v l := by
  obtain ⟨a, cap, rfl, hlen, h0⟩ := h
  rcases h0 with h0 | ⟨b, o, rfl, _, hr⟩
  · exact Or.inl ⟨List.length_eq_zero_iff.1 h0, a, cap, by rw [h0]⟩
  · refine Or.inr ⟨b, o, cap, rfl, hlen.1, fun i hi => ?_⟩
    have := hr.get i hi
    rw [List.getD_eq_getElem?_getD, List.getElem?_eq_getElem hi, Option.getD_some]
    simpa [StrAt] using this

theorem parIs_at {ps : List Kn} {s : ByteArray} (h : parAt ps s < ps.length) : parIs ps s = ((ps[parAt ps s]'h).is, 0) := by
  unfold parIs
  rw [if_pos h, List.getElem?_eq_getElem h]; rfl
theorem parIs_none {ps : List Kn} {s : ByteArray} (h : ¬ parAt ps s < ps.length) : parIs ps s = badEx 6 := by
  unfold parIs
  rw [if_neg h]

end Go.Proofs.YtcpnfkeoajeodaaGreatDoor

/- What an expression is is no longer than a type's text may be. -/
namespace Go.Proofs.YtcpnfkeoajeodaaGreatDoor
open Go.RowKit
set_option maxRecDepth 100000

theorem putVal_le (p b : ByteArray) : (putVal p b).size ≤ 600 := by
  unfold putVal
  split
  · next h =>
    have h0 : kindErr p = 0 := by
      by_cases h0 : kindErr p = 0
      · exact h0
      · unfold putErr at h; rw [if_neg h0] at h; exact absurd h h0
    unfold putErr at h
    rw [if_pos h0] at h
    split
    · next hv =>
      rw [if_pos hv] at h
      have hs := putTo_size (b := b) h0 hv
      split at h
      · split at h
        · cases h
        · omega
      · next hb => exact absurd h hb
    · exact kindErr_size h0
  · exact Nat.zero_le _

theorem allVal_le (ps is : List ByteArray) (r : ByteArray) : (allVal ps is r).size ≤ 600 := by
  unfold allVal
  split
  · exact putVal_le _ _
  · exact Nat.zero_le _

theorem getD_le {B : Nat} {l : List ByteArray} (h : ∀ t ∈ l, t.size ≤ B) (j : Nat) : (l.getD j .empty).size ≤ B := by
  rw [List.getD_eq_getElem?_getD]
  by_cases hj : j < l.length
  · rw [List.getElem?_eq_getElem hj]
    exact h _ (List.getElem_mem hj)
  · rw [List.getElem?_eq_none (by omega)]
    exact Nat.zero_le _

theorem wrapK_le {s : ByteArray} (h : listErr s = 0) : (wrapK s).size ≤ 600 := by
  have := (listErr_ok h).2
  unfold wrapK
  rw [ByteArray.size_append, ByteArray.size_append]
  show 1 + s.size + 1 ≤ 600
  omega

theorem finIs_le {B : Nat} (hB : 600 ≤ B) {k : Int} {sg : Sg} {is : List ByteArray} (h : ∀ t ∈ is, t.size ≤ B) : (finIs k sg is).1.size ≤ B := by
  unfold finIs
  split
  · split
    · exact Nat.le_trans (allVal_le _ _ _) hB
    · exact Nat.zero_le _
  · split
    · split
      · exact getD_le h 0
      · exact Nat.zero_le _
    · split
      · split
        · split
          · next h1 => exact Nat.le_trans (wrapK_le h1) hB
          · exact Nat.zero_le _
        · exact Nat.zero_le _
      · split
        · next h1 =>
          rw [Bool.and_eq_true] at h1
          have h2 := isList_size h1.1
          have := inner_size h2
          have := getD_le h 0
          show (inner _).size ≤ B
          omega
        · exact Nat.zero_le _

theorem endIs_le {B : Nat} (hB : 600 ≤ B) {k : Int} {sg : Sg} {rs : List (ByteArray × Int)} (h : ∀ r ∈ rs, r.1.size ≤ B) : (endIs k sg rs).1.size ≤ B := by
  unfold endIs
  split
  · refine finIs_le hB fun t ht => ?_
    obtain ⟨r, hr, rfl⟩ := List.mem_map.1 ht
    exact h r hr
  · exact Nat.zero_le _

theorem parIs_le {B : Nat} {ps : List Kn} (hps : ∀ k ∈ ps, k.is.size ≤ B) (s : ByteArray) : (parIs ps s).1.size ≤ B := by
  by_cases h : parAt ps s < ps.length
  · rw [parIs_at h]
    exact hps _ (List.getElem_mem h)
  · rw [parIs_none h]
    exact Nat.zero_le _

mutual
theorem exIs_le {B : Nat} (hB : 600 ≤ B) {ps : List Kn} {fc : ByteArray → Fc} (hps : ∀ k ∈ ps, k.is.size ≤ B) : ∀ x : Ex, (exIs ps fc x).1.size ≤ B
  | .mk k n o s xs => by
    have hx := exsIs_le hB (fc := fc) hps xs
    rw [exIs]
    split
    · exact Nat.le_trans (by decide) hB
    · split
      · exact Nat.le_trans (by decide) hB
      · split
        · exact parIs_le hps s
        · split
          · split
            · exact endIs_le hB hx
            · exact Nat.zero_le _
          · exact endIs_le hB hx
theorem exsIs_le {B : Nat} (hB : 600 ≤ B) {ps : List Kn} {fc : ByteArray → Fc} (hps : ∀ k ∈ ps, k.is.size ≤ B) : ∀ l : List Ex, ∀ r ∈ exsIs ps fc l, r.1.size ≤ B
  | [] => by simp [exsIs]
  | x :: l => by
    rw [exsIs]
    intro r hr
    rcases List.mem_cons.1 hr with e | e
    · rw [e]; exact exIs_le hB hps x
    · exact exsIs_le hB hps l r e
end

end Go.Proofs.YtcpnfkeoajeodaaGreatDoor

/- A list of names with what they are that one grows: how it lies. -/
namespace Go.Proofs.YtcpnfkeoajeodaaGreatDoor
open Go.RowKit
set_option maxRecDepth 100000

def pkCells : List Kn → List Value
  | [] => []
  | k :: r => .string k.name :: .string k.is :: pkCells r
theorem pk_snoc (x : Kn) : ∀ l : List Kn, pkCells (l ++ [x]) = pkCells l ++ [.string x.name, .string x.is]
  | [] => rfl
  | k :: r => by simp only [List.cons_append, pkCells, pk_snoc x r]
theorem pk_at : ∀ (l : List Kn) (i : Nat) (h : i < l.length), (pkCells l)[i * 2]? = some (.string l[i].name) ∧ (pkCells l)[i * 2 + 1]? = some (.string l[i].is)
  | [], i, h => absurd h (by simp)
  | k :: r, 0, _ => by simp [pkCells]
  | k :: r, i + 1, h => by
    have ih := pk_at r i (by simpa using h)
    have e : (i + 1) * 2 = i * 2 + 1 + 1 := by omega
    have e' : (i + 1) * 2 + 1 = i * 2 + 1 + 1 + 1 := by omega
    rw [e', e]
    simpa [pkCells] using ih
theorem pk_one (a b : ByteArray) : ∀ u ∈ ([.string a, .string b] : List Value), u.oneCell' = true := by
  intro u hu
  simp at hu
  rcases hu with rfl | rfl <;> rfl
theorem pk_new (w : World) (a b : ByteArray) : ∀ j u, ([.string a, .string b] : List Value)[j]? = some u → (w.alloc (.cells #[.string a, .string b] 41)).cell? ((⟨w.heap.size, 0, none⟩ : Addr).add j) = some u := fun j u h => by
  match j, h with
  | 0, h => cases h; simp [go_sem, Addr.add]
  | 1, h => cases h; simp [go_sem, Addr.add]
theorem pk_row {w : World} {B : Nat} {v : Value} {l : List Kn} (h : w.ownsRow B 41 2 v l.length (pkCells l)) (hl : l.length ≤ maxLen) (hs : ∀ t ∈ l, t.name.size ≤ maxLen ∧ t.is.size ≤ maxLen) : SlAt (fun b => b < w.heap.size) (KnAt w) 2 l v := by
  obtain ⟨hx, ⟨hv, hn⟩ | ⟨g, cap, cur, hv, hg, hh, h1, h2, h3, h4⟩⟩ := h
  · subst hv
    exact ⟨none, 0, by rw [hn], ⟨hl, by omega⟩, Or.inl hn⟩
  · subst hv
    refine ⟨_, cap, rfl, ⟨hl, h1⟩, Or.inr ⟨g, 0, rfl, ?_, RowAt.mk fun i hi => ?_⟩⟩
    · rcases Nat.lt_or_ge g w.heap.size with h | h
      · exact h
      · rw [Array.getElem?_eq_none h] at hh
        cases hh
    · have hc : ∀ j u, (pkCells l)[j]? = some u → w.cell? ⟨g, j, none⟩ = some u := fun j u hj => by
        rw [← h4] at hj
        have hj' : j < l.length * 2 := by
          rcases Nat.lt_or_ge j (l.length * 2) with h | h
          · exact h
          · rw [List.getElem?_eq_none (by rw [List.length_take]; omega)] at hj
            cases hj
        rw [List.getElem?_take_of_lt hj'] at hj
        simpa [World.cell?, hh] using hj
      obtain ⟨e0, e1⟩ := pk_at l i hi
      obtain ⟨s0, s1⟩ := hs _ (List.getElem_mem hi)
      rw [Nat.zero_add]
      exact ⟨⟨hc _ _ e0, s0⟩, hc _ _ e1, s1⟩

end Go.Proofs.YtcpnfkeoajeodaaGreatDoor
