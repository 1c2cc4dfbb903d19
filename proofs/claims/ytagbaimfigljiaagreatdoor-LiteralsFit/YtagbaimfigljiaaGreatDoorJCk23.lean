import Derived.Test.YtagbaimfigljiaaGreatDoorJCk12
import Derived.Test.YtagbaimfigljiaaGreatDoorJCk14
import Derived.Test.YtagbaimfigljiaaGreatDoorJCk22
import Derived.Test.YtagbaimfigljiaaGreatDoorJCk16
import Derived.Test.YtagbaimfigljiaaGreatDoorJCk19
import Derived.Test.YtagbaimfigljiaaGreatDoorJCk15
import Derived.BigQuiet
import Derived.Deep.QuietTactic
namespace Go.Proofs.YtagbaimfigljiaaGreatDoor
open Go.RowKit
set_option maxRecDepth 100000

def funcAt (f : Fc) (s : ByteArray) : Nat := findAt (fun k : Sg => sEq k.name s) f.funcs
def funcVal (f : Fc) (s : ByteArray) : Sg := (f.funcs[funcAt f s]?).getD ⟨⟨#[]⟩, [], ⟨#[]⟩⟩
def funcErr (f : Fc) (s : ByteArray) : Int := if funcAt f s < f.funcs.length then 0 else 6

theorem func_yes {f : Fc} {s : ByteArray} {k : Nat} (hk : k < f.funcs.length) (h : funcAt f s = k) : funcVal f s = f.funcs[k] ∧ funcErr f s = 0 := by
  unfold funcVal funcErr
  rw [h, List.getElem?_eq_getElem hk, if_pos hk]
  exact ⟨rfl, rfl⟩
theorem func_no {f : Fc} {s : ByteArray} (h : f.funcs.length ≤ funcAt f s) : funcVal f s = ⟨⟨#[]⟩, [], ⟨#[]⟩⟩ ∧ funcErr f s = 6 := by
  unfold funcVal funcErr
  rw [List.getElem?_eq_none h, if_neg (by omega)]
  exact ⟨rfl, rfl⟩

theorem sg_none (S : Nat → Prop) (w : World) : SgIs S w ⟨⟨#[]⟩, [], ⟨#[]⟩⟩ (.agg #[.string ⟨#[]⟩, .slice none 0 0, .string ⟨#[]⟩]) :=
  ⟨_, rfl, Nat.zero_le _, Nat.zero_le _, none, 0, rfl, ⟨by simp, by simp⟩, .inl rfl⟩

/-- behind the store of the three cells of the result. -/
theorem sg_stored {B : Nat} {W : World} {g : Sg} {v : Value} (h : SgIs (fun b => B < b ∧ b < W.heap.size) W g v) (u0 u1 u2 : Value) :
    SgIs (fun b => b < (((W.setCell ⟨B, 0, none⟩ u0).setCell ⟨B, 1, none⟩ u1).setCell ⟨B, 2, none⟩ u2).heap.size) (((W.setCell ⟨B, 0, none⟩ u0).setCell ⟨B, 1, none⟩ u1).setCell ⟨B, 2, none⟩ u2) g v := by
  refine h.keep ⟨fun b hb => ?_, fun b hb => ?_⟩
  · rw [Below.heap_setCell _ _ _ _ (by show b ≠ B; omega), Below.heap_setCell _ _ _ _ (by show b ≠ B; omega), Below.heap_setCell _ _ _ _ (by show b ≠ B; omega)]
  · rw [size_setCell', size_setCell', size_setCell']; exact hb.2

set_option maxHeartbeats 4000000 in
theorem func_any (S : Nat → Prop) (f : Fc) (s : ByteArray) (v : Value) (w : World) (hS : ∀ b, S b → b < w.heap.size) (hv : FcIs S w f v) (hz : fcSmall f) :
    Calls Tryz.prog 27 #[v, .string s] w fun e w' => ∃ a n cap, e = .returned (.tuple #[.agg #[.string (funcVal f s).name, .slice a n cap, .string (funcVal f s).result], .int .i64 (funcErr f s)]) ∧ SgIs (fun b => b < w'.heap.size) w' (funcVal f s) (.agg #[.string (funcVal f s).name, .slice a n cap, .string (funcVal f s).result]) ∧ Below w.heap.size w w' := by
  obtain ⟨vt, vf, rfl, ht, hf⟩ := hv
  have HT := veil hf
  have hlen := hf.len
  unfold maxLen at hlen
  obtain ⟨a2, n2, cap2, rfl⟩ := ht.slice
  obtain ⟨a, cap, rfl⟩ := hf.is
  obtain ⟨w2, hwe, hs2, p0, p1, hbel, q0, q1, q2, f0, f1, f2⟩ : ∃ w2, ((w.alloc (.cells #[.slice a2 n2 cap2, .slice a f.funcs.length cap] 30)).alloc (.cells #[.string s] 9)).alloc (.cells #[.string ⟨#[]⟩, .slice none 0 0, .string ⟨#[]⟩] 65) = w2 ∧ w2.heap.size = w.heap.size + 3 ∧
      w2.cell? ⟨w.heap.size, 1, none⟩ = some (.slice a f.funcs.length cap) ∧ w2.cell? ⟨w.heap.size + 1, 0, none⟩ = some (.string s) ∧ Below w.heap.size w w2 ∧
      w2.cell? ⟨w.heap.size + 2, 0, none⟩ = some (.string ⟨#[]⟩) ∧ w2.cell? ⟨w.heap.size + 2, 1, none⟩ = some (.slice none 0 0) ∧ w2.cell? ⟨w.heap.size + 2, 2, none⟩ = some (.string ⟨#[]⟩) ∧
      w2.frozen? ⟨w.heap.size + 2, 0, none⟩ = false ∧ w2.frozen? ⟨w.heap.size + 2, 1, none⟩ = false ∧ w2.frozen? ⟨w.heap.size + 2, 2, none⟩ = false :=
    ⟨_, rfl, by simp, by simp [go_sem], by simp [go_sem], (((Below.refl _ _).alloc (Nat.le_refl _) _).alloc (by simp) _).alloc (by simp; omega) _, by simp [go_sem], by simp [go_sem], by simp [go_sem], by simp [go_sem], by simp [go_sem], by simp [go_sem]⟩
  have HC : Hid (Calls Tryz.prog 68 #[.slice a f.funcs.length cap, .func (.func 69) #[] #[.pointer (some ⟨w.heap.size + 1, 0, none⟩)]] w2 fun e w' => e = .returned (.int .i64 (idxOf (fun k : Sg => sEq k.name s) f.funcs)) ∧ Below w2.heap.size w2 w') :=
    index_sg S _ _ _ _ w2 (fun b hb => Nat.lt_of_lt_of_le (hS b hb) hbel.size) (sgSl_keep (Keeps.below hbel hS) hf) p1
  have HRes : Hid (∀ W, Below w2.heap.size w2 W → (W.cell? ⟨w.heap.size, 1, none⟩ = some (.slice a f.funcs.length cap) ∧ Below w.heap.size w W ∧ w.heap.size + 2 < W.heap.size) ∧ (W.cell? ⟨w.heap.size + 2, 0, none⟩ = some (.string ⟨#[]⟩) ∧ W.cell? ⟨w.heap.size + 2, 1, none⟩ = some (.slice none 0 0) ∧ W.cell? ⟨w.heap.size + 2, 2, none⟩ = some (.string ⟨#[]⟩)) ∧
      W.frozen? ⟨w.heap.size + 2, 0, none⟩ = false ∧ W.frozen? ⟨w.heap.size + 2, 1, none⟩ = false ∧ W.frozen? ⟨w.heap.size + 2, 2, none⟩ = false) := fun W h => by
    have hsz := h.size
    exact ⟨⟨(h.cell (p := ⟨w.heap.size, 1, none⟩) (by show w.heap.size < _; omega)).trans p0, hbel.trans (h.mono hbel.size), by omega⟩,
      ⟨(h.cell (p := ⟨w.heap.size + 2, 0, none⟩) (by show w.heap.size + 2 < _; omega)).trans q0, (h.cell (p := ⟨w.heap.size + 2, 1, none⟩) (by show w.heap.size + 2 < _; omega)).trans q1, (h.cell (p := ⟨w.heap.size + 2, 2, none⟩) (by show w.heap.size + 2 < _; omega)).trans q2⟩,
      (h.frozen (p := ⟨w.heap.size + 2, 0, none⟩) (by show w.heap.size + 2 < _; omega)).trans f0, (h.frozen (p := ⟨w.heap.size + 2, 1, none⟩) (by show w.heap.size + 2 < _; omega)).trans f1, (h.frozen (p := ⟨w.heap.size + 2, 2, none⟩) (by show w.heap.size + 2 < _; omega)).trans f2⟩
  have HSet : Hid (∀ W u0 u1 u2, Below w.heap.size w W → Below w.heap.size w (((W.setCell ⟨w.heap.size + 2, 0, none⟩ u0).setCell ⟨w.heap.size + 2, 1, none⟩ u1).setCell ⟨w.heap.size + 2, 2, none⟩ u2)) := fun W u0 u1 u2 h =>
    ((h.setCell (by show w.heap.size ≤ w.heap.size + 2; omega) _).setCell (by show w.heap.size ≤ w.heap.size + 2; omega) _).setCell (by show w.heap.size ≤ w.heap.size + 2; omega) _
  have HWe := veil hwe
  clear ht hf hwe hbel p0 p1 q0 q1 q2 f0 f1 f2
  by_cases hat : funcAt f s < f.funcs.length
  · obtain ⟨_, b, off, rfl, hb, hsg⟩ := HT.out.at hat
    have hbk := hS b hb
    obtain ⟨r1, r2, r3, a0, a1, a3, hgi⟩ := sgIs_at hsg
    have hI : idxOf (fun k : Sg => sEq k.name s) f.funcs = (funcAt f s : Int) := if_pos hat
    have HR := veil (func_yes hat rfl)
    have HCp : Hid (∀ W, Below w.heap.size w W → w.heap.size + 2 < W.heap.size → Calls Tryz.prog 62 #[.agg #[.string f.funcs[funcAt f s].name, .slice r1 r2 r3, .string f.funcs[funcAt f s].result]] W fun e w' => ∃ a n cap, e = .returned (.agg #[.string f.funcs[funcAt f s].name, .slice a n cap, .string f.funcs[funcAt f s].result]) ∧ SgIs (fun b => w.heap.size + 2 < b ∧ b < w'.heap.size) w' f.funcs[funcAt f s] (.agg #[.string f.funcs[funcAt f s].name, .slice a n cap, .string f.funcs[funcAt f s].result]) ∧ Below W.heap.size W w') := fun W hW h2 => by
      refine (copyFunc_any S _ _ W (fun b hb => Nat.lt_of_lt_of_le (hS b hb) hW.size) (hgi.keep (Keeps.below hW hS)) (hz.2.2 _ (List.getElem_mem hat))).mono ?_
      rintro e w' ⟨a, n, cap, rfl, h3, h4⟩
      obtain ⟨_, _, z0, z1, _⟩ := hgi
      exact ⟨a, n, cap, rfl, ⟨_, rfl, z0, z1, h3.imp (fun b hb => ⟨by omega, hb.2⟩) (fun _ _ _ _ _ h => h)⟩, h4⟩
    have HA : Hid (∀ W, Below w.heap.size w W → W.cell? ⟨b, off + funcAt f s * 3, none⟩ = some (.string f.funcs[funcAt f s].name) ∧ W.cell? ⟨b, off + funcAt f s * 3 + 1, none⟩ = some (.slice r1 r2 r3) ∧ W.cell? ⟨b, off + funcAt f s * 3 + 2, none⟩ = some (.string f.funcs[funcAt f s].result)) := fun W h =>
      ⟨(h.cell (p := ⟨b, off + funcAt f s * 3, none⟩) hbk).trans a0, (h.cell (p := ⟨b, off + funcAt f s * 3 + 1, none⟩) hbk).trans a1, (h.cell (p := ⟨b, off + funcAt f s * 3 + 2, none⟩) hbk).trans a3⟩
    clear hz a0 a1 a3 HT hsg hgi
    rw [hI] at HC
    rw [HR.out.1, HR.out.2]
    clear HR hI
    generalize f.funcs[funcAt f s] = g at *
    generalize funcAt f s = k at *
    have hk' : (k : Int) < (f.funcs.length : Int) := by omega
    have hk0 : ¬ (k : Int) < 0 := by omega
    have hk1 : (0 : Int) ≤ (k : Int) := by omega
    go_enter Tryz.func27, Tryz.ntmps27
    go_wp2_with fail
    rw [HWe.out]
    refine HC.out.mono ?_
    rintro e w3 ⟨rfl, hb3⟩
    obtain ⟨⟨c0, hb4, hl4⟩, -⟩ := HRes.out _ hb3
    obtain ⟨d0, d1, d2⟩ := HA.out _ hb4
    have HB3 := veil hb3
    have HB4 := veil hb4
    clear hb3 hb4
    go_wp2_with fail
    refine (HCp.out _ HB4.out hl4).mono ?_
    rintro e w5 ⟨a5, n5, cap5, rfl, hg5, hb5⟩
    obtain ⟨⟨_, hb6, _⟩, ⟨g0, g1, g2⟩, g3, g4, g5⟩ := HRes.out _ (HB3.out.trans (hb5.mono HB3.out.size))
    have HG5 := veil hg5
    have HB6 := veil hb6
    clear hb5 hg5 hb6
    go_wp2_with fail
    exact bodyPost_ret (v := .tuple #[.agg #[.string g.name, .slice a5 n5 cap5, .string g.result], .int .i64 0]) (by simp [results, Tryz.results27, go_sem, g0, g1, g2]) rfl ⟨a5, n5, cap5, rfl, sg_stored HG5.out _ _ _, HSet.out _ _ _ _ HB6.out⟩
  · have hI : idxOf (fun k : Sg => sEq k.name s) f.funcs = -1 := if_neg hat
    have HR := veil (func_no (f := f) (s := s) (by omega))
    clear hz HT
    rw [hI] at HC
    rw [HR.out.1, HR.out.2]
    clear hI hat HR
    go_enter Tryz.func27, Tryz.ntmps27
    go_wp2_with fail
    rw [HWe.out]
    refine HC.out.mono ?_
    rintro e w3 ⟨rfl, hb3⟩
    obtain ⟨⟨c0, hb4, hl4⟩, ⟨g0, g1, g2⟩, g3, g4, g5⟩ := HRes.out _ hb3
    have HB4 := veil hb4
    clear hb3 hb4
    go_wp2_with fail
    exact bodyPost_ret (v := .tuple #[.agg #[.string ⟨#[]⟩, .slice none 0 0, .string ⟨#[]⟩], .int .i64 6]) (by simp [results, Tryz.results27, go_sem, g0, g1, g2]) rfl ⟨none, 0, 0, rfl, sg_none _ _, HSet.out _ _ _ _ HB4.out⟩

end Go.Proofs.YtagbaimfigljiaaGreatDoor
namespace Go.Proofs.YtagbaimfigljiaaGreatDoor
open Go.RowKit
set_option maxRecDepth 100000

def noSg : Sg := ⟨⟨#[]⟩, [], ⟨#[]⟩⟩
def badEx (c : Int) : ByteArray × Int := (⟨#[]⟩, c)

/-- what a function's param of that name is. -/
def parAt (ps : List Kn) (s : ByteArray) : Nat := findAt (fun k : Kn => sEq k.name s) ps
def parIs (ps : List Kn) (s : ByteArray) : ByteArray × Int :=
  if parAt ps s < ps.length then (((ps[parAt ps s]?).map Kn.is).getD ⟨#[]⟩, 0) else badEx 6

/-- what comes of what the parts are. -/
def finIs (k : Int) (sg : Sg) (is : List ByteArray) : ByteArray × Int :=
  if k = 4 then (if allErr sg.params is sg.result = 0 then (allVal sg.params is sg.result, 0) else badEx 8)
  else if k = 5 then (if sEq (is.getD 0 .empty) (is.getD 1 .empty) && (sEq (is.getD 0 .empty) intK || sEq (is.getD 0 .empty) textK) then (is.getD 0 .empty, 0) else badEx 8)
  else if k = 6 then (if is.all (fun i => sEq i (is.getD 0 .empty)) then (if listErr (is.getD 0 .empty) = 0 then (wrapK (is.getD 0 .empty), 0) else badEx 8) else badEx 8)
  else if isList (is.getD 0 .empty) && sEq (is.getD 1 .empty) intK then (inner (is.getD 0 .empty), 0) else badEx 8

/-- the parts one by one, then what comes of them. -/
def endIs (k : Int) (sg : Sg) (rs : List (ByteArray × Int)) : ByteArray × Int :=
  if firstBad Prod.snd rs = 0 then finIs k sg (rs.map Prod.fst) else badEx (firstBad Prod.snd rs)

/-- the function that a call names, or what is wrong with that. -/
def callErr (fc : ByteArray → Fc) (o s : ByteArray) (n : Nat) : Int :=
  if funcErr (fc o) s = 0 then (if (funcVal (fc o) s).params.length = n then 0 else 7) else 6

mutual
def exIs (ps : List Kn) (fc : ByteArray → Fc) : Ex → ByteArray × Int
  | .mk k _ o s xs =>
    if k = 1 then (intK, 0) else if k = 2 then (textK, 0) else if k = 3 then parIs ps s else
    if k = 4 then (if callErr fc o s xs.length = 0 then endIs k (funcVal (fc o) s) (exsIs ps fc xs) else badEx (callErr fc o s xs.length))
    else endIs k noSg (exsIs ps fc xs)
def exsIs (ps : List Kn) (fc : ByteArray → Fc) : List Ex → List (ByteArray × Int)
  | [] => []
  | x :: r => exIs ps fc x :: exsIs ps fc r
end

theorem exsIs_map (ps : List Kn) (fc : ByteArray → Fc) : ∀ l : List Ex, exsIs ps fc l = l.map (exIs ps fc)
  | [] => by simp [exsIs]
  | x :: r => by simp only [exsIs, List.map_cons, exsIs_map ps fc r]

theorem exsFault_mem {l : List Ex} {d : Nat} (h : exsFault l d = 0) : ∀ x ∈ l, exFault x d = 0 := by
  rw [exsFault_first] at h
  intro x hx
  obtain ⟨j, hj, rfl⟩ := List.getElem_of_mem hx
  exact firstBad_all _ _ h j hj

theorem firstBad_map {α β : Type} (g : β → Int) (f : α → β) : ∀ l : List α, firstBad g (l.map f) = firstBad (fun x => g (f x)) l
  | [] => rfl
  | x :: r => by simp only [List.map_cons, firstBad, firstBad_map g f r]
theorem strRow_of {S : Nat → Prop} {w : World} {l : List ByteArray} {v : Value} (h : SlAt S (StrAt w) 1 l v) : StrRow w v l := by
  obtain ⟨a, cap, rfl, hlen, h0⟩ := h
  rcases h0 with h0 | ⟨b, o, rfl, _, hr⟩
  · exact Or.inl ⟨List.length_eq_zero_iff.1 h0, a, cap, by rw [h0]⟩
  · refine Or.inr ⟨b, o, cap, rfl, hlen.1, fun i hi => ?_⟩
    have := hr.get i hi
    rw [List.getD_eq_getElem?_getD, List.getElem?_eq_getElem hi, Option.getD_some]
    simpa [StrAt] using this

theorem parIs_at {ps : List Kn} {s : ByteArray} (h : parAt ps s < ps.length) : parIs ps s = ((ps[parAt ps s]'h).is, 0) := by
  unfold parIs
  rw [if_pos h, List.getElem?_eq_getElem h]; rfl
theorem parIs_none {ps : List Kn} {s : ByteArray} (h : ¬ parAt ps s < ps.length) : parIs ps s = badEx 6 := by
  unfold parIs
  rw [if_neg h]

end Go.Proofs.YtagbaimfigljiaaGreatDoor
namespace Go.Proofs.YtagbaimfigljiaaGreatDoor
open Go.RowKit
set_option maxRecDepth 100000

theorem putVal_le (p b : ByteArray) : (putVal p b).size ≤ 600 := by
  unfold putVal
  split
  · next h =>
    have h0 : kindErr p = 0 := by
      by_cases h0 : kindErr p = 0
      · exact h0
      · unfold putErr at h; rw [if_neg h0] at h; exact absurd h h0
    unfold putErr at h
    rw [if_pos h0] at h
    split
    · next hv =>
      rw [if_pos hv] at h
      have hs := putTo_size (b := b) h0 hv
      split at h
      · split at h
        · cases h
        · omega
      · next hb => exact absurd h hb
    · exact kindErr_size h0
  · exact Nat.zero_le _

theorem allVal_le (ps is : List ByteArray) (r : ByteArray) : (allVal ps is r).size ≤ 600 := by
  unfold allVal
  split
  · exact putVal_le _ _
  · exact Nat.zero_le _

theorem getD_le {B : Nat} {l : List ByteArray} (h : ∀ t ∈ l, t.size ≤ B) (j : Nat) : (l.getD j .empty).size ≤ B := by
  rw [List.getD_eq_getElem?_getD]
  by_cases hj : j < l.length
  · rw [List.getElem?_eq_getElem hj]
    exact h _ (List.getElem_mem hj)
  · rw [List.getElem?_eq_none (by omega)]
    exact Nat.zero_le _

theorem wrapK_le {s : ByteArray} (h : listErr s = 0) : (wrapK s).size ≤ 600 := by
  have := (listErr_ok h).2
  unfold wrapK
  rw [ByteArray.size_append, ByteArray.size_append]
  show 1 + s.size + 1 ≤ 600
  omega

theorem finIs_le {B : Nat} (hB : 600 ≤ B) {k : Int} {sg : Sg} {is : List ByteArray} (h : ∀ t ∈ is, t.size ≤ B) : (finIs k sg is).1.size ≤ B := by
  unfold finIs
  split
  · split
    · exact Nat.le_trans (allVal_le _ _ _) hB
    · exact Nat.zero_le _
  · split
    · split
      · exact getD_le h 0
      · exact Nat.zero_le _
    · split
      · split
        · split
          · next h1 => exact Nat.le_trans (wrapK_le h1) hB
          · exact Nat.zero_le _
        · exact Nat.zero_le _
      · split
        · next h1 =>
          rw [Bool.and_eq_true] at h1
          have h2 := isList_size h1.1
          have := inner_size h2
          have := getD_le h 0
          show (inner _).size ≤ B
          omega
        · exact Nat.zero_le _

theorem endIs_le {B : Nat} (hB : 600 ≤ B) {k : Int} {sg : Sg} {rs : List (ByteArray × Int)} (h : ∀ r ∈ rs, r.1.size ≤ B) : (endIs k sg rs).1.size ≤ B := by
  unfold endIs
  split
  · refine finIs_le hB fun t ht => ?_
    obtain ⟨r, hr, rfl⟩ := List.mem_map.1 ht
    exact h r hr
  · exact Nat.zero_le _

theorem parIs_le {B : Nat} {ps : List Kn} (hps : ∀ k ∈ ps, k.is.size ≤ B) (s : ByteArray) : (parIs ps s).1.size ≤ B := by
  by_cases h : parAt ps s < ps.length
  · rw [parIs_at h]
    exact hps _ (List.getElem_mem h)
  · rw [parIs_none h]
    exact Nat.zero_le _

mutual
theorem exIs_le {B : Nat} (hB : 600 ≤ B) {ps : List Kn} {fc : ByteArray → Fc} (hps : ∀ k ∈ ps, k.is.size ≤ B) : ∀ x : Ex, (exIs ps fc x).1.size ≤ B
  | .mk k n o s xs => by
    have hx := exsIs_le hB (fc := fc) hps xs
    rw [exIs]
    split
    · exact Nat.le_trans (by decide) hB
    · split
      · exact Nat.le_trans (by decide) hB
      · split
        · exact parIs_le hps s
        · split
          · split
            · exact endIs_le hB hx
            · exact Nat.zero_le _
          · exact endIs_le hB hx
theorem exsIs_le {B : Nat} (hB : 600 ≤ B) {ps : List Kn} {fc : ByteArray → Fc} (hps : ∀ k ∈ ps, k.is.size ≤ B) : ∀ l : List Ex, ∀ r ∈ exsIs ps fc l, r.1.size ≤ B
  | [] => by simp [exsIs]
  | x :: l => by
    rw [exsIs]
    intro r hr
    rcases List.mem_cons.1 hr with e | e
    · rw [e]; exact exIs_le hB hps x
    · exact exsIs_le hB hps l r e
end

end Go.Proofs.YtagbaimfigljiaaGreatDoor
namespace Go.Proofs.YtagbaimfigljiaaGreatDoor
open Go.RowKit
set_option maxRecDepth 100000

theorem solveP_le {B : Nat} (hB : 600 ≤ B) {ρ : ByteArray → ByteArray → Sol} (h : ∀ o n, (ρ o n).1.size ≤ B) : ∀ (d : Nat) (t : Ty), (solveP ρ d t).1.size ≤ B
  | 0, _ => Nat.zero_le _
  | d + 1, .mk k o n xs => by
    unfold solveP
    split
    · exact Nat.le_trans (by decide) hB
    · split
      · exact Nat.le_trans (by decide) hB
      · split
        · cases xs with
          | nil => exact Nat.zero_le _
          | cons t r =>
            show (listR (solveP ρ d t)).1.size ≤ _
            unfold listR
            split
            · split
              · rename_i hl
                exact Nat.le_trans (wrapK_le hl) hB
              · exact Nat.zero_le _
            · exact Nat.zero_le _
        · exact h o n
theorem impR_le {B : Nat} (hB : reachBytes ≤ B) {u : List ByteArray} {l : List Im} (hz : ∀ i ∈ l, fcSmall i.face) (o n : ByteArray) : (impR u l o n).1.size ≤ B := by
  show (impVal u l o n).size ≤ _
  unfold impVal
  split
  · unfold typeVal
    cases hk : (fromFc u l o).types[typeAt (fromFc u l o) n]? with
    | none => exact Nat.zero_le _
    | some k =>
      have := (from_small (u := u) o hz).1.2 k (List.mem_of_getElem? hk)
      have h2 := this.2
      show k.is.size ≤ _
      omega
  · exact Nat.zero_le _
theorem refR_le {B : Nat} (h6 : 600 ≤ B) (hB : reachBytes ≤ B) {m : Mo} {l : List Im} (hz : ∀ i ∈ l, fcSmall i.face) : ∀ (u : Nat) (v : ByteArray) (under : List ByteArray) (o n : ByteArray), (refR m l u v under o n).1.size ≤ B
  | 0, v, under, o, n => by
    unfold refR
    split
    · split
      · show (1 : Nat) ≤ _
        omega
      · split <;> exact Nat.zero_le _
    · exact impR_le hB hz o n
  | u + 1, v, under, o, n => by
    unfold refR
    split
    · split
      · show (1 : Nat) ≤ _
        omega
      · cases m.types[ownAt m n]? with
        | none => exact Nat.zero_le _
        | some f =>
          simp only
          split
          · exact Nat.zero_le _
          · exact solveP_le h6 (fun o n => refR_le h6 hB hz u _ _ o n) 10 _
    · exact impR_le hB hz o n
theorem rhoR_le {m : Mo} {l : List Im} (hz : ∀ i ∈ l, fcSmall i.face) (vv : ByteArray) (t : Ty) : (rhoR m l vv t).1.size ≤ 281474976710656 := by
  have hr := reachBytes_lt
  exact solveP_le (by omega) (fun o n => refR_le (by omega) (by omega) hz _ _ _ o n) 10 t

theorem o_none {o : ByteArray} (h : o.toList.isEmpty = true) : noneB o = true := by
  unfold noneB
  rw [Lib.toList_data] at h
  cases hd : o.data.toList with
  | nil => rfl
  | cons a b => rw [hd] at h; cases h
theorem o_some {o : ByteArray} (h : o.toList.isEmpty = false) : noneB o = false := by
  unfold noneB
  rw [Lib.toList_data] at h
  cases hd : o.data.toList with
  | nil => rw [hd] at h; cases h
  | cons a b => rfl
theorem sgIs_slice {S : Nat → Prop} {w : World} {g : Sg} {a : Option Addr} {n c : Nat} (h : SgIs S w g (.agg #[.string g.name, .slice a n c, .string g.result])) : n = g.params.length ∧ g.result.size ≤ maxLen ∧ SlAt S (StrAt w) 1 g.params (.slice a n c) := by
  obtain ⟨vp, hve, _, h2, h3⟩ := h
  have e : vp = .slice a n c := by
    injection hve with hve
    have h1 : [Value.string g.name, .slice a n c, .string g.result] = [.string g.name, vp, .string g.result] := congrArg Array.toList hve
    injection h1 with _ h1
    injection h1 with h1 _
    exact h1.symm
  subst e
  obtain ⟨a', c', e'⟩ := h3.is
  injection e' with _ e'
  exact ⟨e', h2, h3⟩

end Go.Proofs.YtagbaimfigljiaaGreatDoor
namespace Go.Proofs.YtagbaimfigljiaaGreatDoor
open Go.RowKit
set_option maxRecDepth 100000

/-- what an expression that may be is made of. -/
theorem ex_parts {k num : Int} {o s : ByteArray} {xs : List Ex} {d : Nat} (h : exFault (.mk k num o s xs) d = 0) : ¬ 10 < d ∧ isIn k 1 7 = true ∧ ¬ 8 < xs.length ∧ namesFit k o s = true ∧ countFits k xs.length = true ∧ exsFault xs (d + 1) = 0 := by
  rw [exFault] at h
  by_cases h1 : 10 < d
  · rw [if_pos h1] at h; cases h
  rw [if_neg h1] at h
  cases h2 : isIn k 1 7
  · rw [if_pos h2] at h; cases h
  rw [if_neg (by rw [h2]; decide)] at h
  by_cases h3 : 8 < xs.length
  · rw [if_pos h3] at h; cases h
  rw [if_neg h3] at h
  by_cases h4 : (num ≠ 0 ∧ k ≠ 1) ∨ namesFit k o s = false ∨ countFits k xs.length = false
  · rw [if_pos h4] at h; cases h
  rw [if_neg h4] at h
  split at h
  · cases h
  · exact ⟨h1, rfl, h3, by simpa using fun e => h4 (Or.inr (Or.inl e)), by simpa using fun e => h4 (Or.inr (Or.inr e)), h⟩

abbrev faceOf (m : Mo) (l : List Im) (own : Fc) : ByteArray → Fc := fun o => if noneB o = true then own else fromFc m.uses l o

/-- isOf's answer. -/
abbrev IsAns (ps : List Kn) (fc : ByteArray → Fc) (x : Ex) (W : World) : Ending → World → Prop := fun e w' => e = .returned (.tuple #[.string (exIs ps fc x).1, .int .i64 (exIs ps fc x).2]) ∧ Below W.heap.size W w'

end Go.Proofs.YtagbaimfigljiaaGreatDoor
