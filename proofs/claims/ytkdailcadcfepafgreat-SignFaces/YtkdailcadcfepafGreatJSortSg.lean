/- slices.SortFunc of functions by their names, with strings.Compare. -/
import Derived.Test.YtkdailcadcfepafGreatJSortRow
import Derived.Test.YtkdailcadcfepafGreatShelfS
namespace Go.Proofs.YtkdailcadcfepafGreat
open Go.RowKit Go.Shelf
set_option maxRecDepth 100000
open Go.Sort (grow putRowK putRow mapBlock ahead onCells HoldsK Holds flatK size_flatK get_flatK alloc_eq_grow grow_grow)

/-- a signature, and where its params lie. -/
abbrev Sy := Sg × Option Addr × Nat × Nat
def syName (y : Sy) : ByteArray := y.1.name
def syVal (y : Sy) : Value := .slice y.2.1 y.2.2.1 y.2.2.2
def encSy (y : Sy) : List Value := [.string y.1.name, .slice y.2.1 y.2.2.1 y.2.2.2, .string y.1.result]
def syCells (l : List Sy) : List Value := l.flatMap encSy
theorem syCells_snoc (l : List Sy) (y : Sy) : syCells (l ++ [y]) = syCells l ++ [.string y.1.name, syVal y, .string y.1.result] := by simp [syCells, encSy, syVal]
def SyAt (w : World) (y : Sy) (b o : Nat) : Prop := w.cell? ⟨b, o, none⟩ = some (.string y.1.name) ∧ w.cell? ⟨b, o + 1, none⟩ = some (syVal y) ∧ w.cell? ⟨b, o + 2, none⟩ = some (.string y.1.result)

theorem ownsRow_sys {w : World} {B : Nat} {v : Value} {l : List Sy} (h : w.ownsRow B 52 3 v l.length (syCells l)) (hl : l.length ≤ maxLen) : SlAt (fun b => (v.ownBlock = some b ∧ B ≤ b) ∧ b < w.heap.size) (SyAt w) 3 l v := by
  obtain ⟨hx, ⟨hv, hn⟩ | ⟨g, cap, cur, hv, hg, hh, h1, h2, h3, h4⟩⟩ := h
  · subst hv
    exact ⟨none, 0, by rw [hn], ⟨hl, by omega⟩, Or.inl hn⟩
  · subst hv
    refine ⟨_, cap, rfl, ⟨hl, h1⟩, Or.inr ⟨g, 0, rfl, ⟨⟨rfl, hg⟩, ?_⟩, RowAt.mk fun i hi => ?_⟩⟩
    · rcases Nat.lt_or_ge g w.heap.size with h | h
      · exact h
      · rw [Array.getElem?_eq_none h] at hh
        cases hh
    · have hc : ∀ j u, (syCells l)[j]? = some u → w.cell? ⟨g, j, none⟩ = some u := fun j u hj => by
        rw [← h4] at hj
        have hj' : j < l.length * 3 := by
          rcases Nat.lt_or_ge j (l.length * 3) with h | h
          · exact h
          · rw [List.getElem?_eq_none (by rw [List.length_take]; omega)] at hj
            cases hj
        rw [List.getElem?_take_of_lt hj'] at hj
        simpa [World.cell?, hh] using hj
      have e0 := flat_at encSy 3 (fun _ => rfl) (by omega) l (i * 3) (by omega)
      have e1 := flat_at encSy 3 (fun _ => rfl) (by omega) l (i * 3 + 1) (by omega)
      have e3 := flat_at encSy 3 (fun _ => rfl) (by omega) l (i * 3 + 2) (by omega)
      rw [show i * 3 / 3 = i by omega, show i * 3 % 3 = 0 by omega] at e0
      rw [show (i * 3 + 1) / 3 = i by omega, show (i * 3 + 1) % 3 = 1 by omega] at e1
      rw [show (i * 3 + 2) / 3 = i by omega, show (i * 3 + 2) % 3 = 2 by omega] at e3
      have e2 : l.toArray[i]! = l[i] := by simp [getElem!_pos, hi]
      rw [e2] at e0 e1 e3
      exact ⟨by simpa [encSy] using hc _ _ e0, by simpa [encSy, syVal] using hc _ _ e1, by simpa [encSy] using hc _ _ e3⟩

set_option maxHeartbeats 1000000 in
/-- the closure. -/
theorem byName_sg (x y : Sy) (W : World) : Calls Tryz.prog 15 #[.agg #[.string x.1.name, .slice x.2.1 x.2.2.1 x.2.2.2, .string x.1.result], .agg #[.string y.1.name, .slice y.2.1 y.2.2.1 y.2.2.2, .string y.1.result]] W fun e w' => e = .returned (.int .i64 (cmpN syName x y)) ∧ ∃ q os', w' = grow (W.drewN q) os' := by
  have HC : Hid (∀ W, Calls Tryz.prog 16 #[.string x.1.name, .string y.1.name] W fun e w' => e = .returned (.int .i64 (Lib.compareBytes x.1.name.data.toList y.1.name.data.toList)) ∧ w' = W) := fun W => Tryz.strings_Compare x.1.name y.1.name W
  have HE : Hid (cmpN syName x y = Lib.compareBytes x.1.name.data.toList y.1.name.data.toList) := rfl
  generalize cmpN syName x y = r at *
  generalize Lib.compareBytes x.1.name.data.toList y.1.name.data.toList = r' at *
  go_enter Tryz.func15, Tryz.ntmps15
  go_wp2_with fail
  refine (HC.out _).mono ?_
  rintro e w' ⟨rfl, rfl⟩
  go_wp2_with fail
  go_ret
  exact ⟨by rw [HE.out]; rfl, 0, _, by rw [alloc_eq_grow, alloc_eq_grow, grow_grow]; rfl⟩

theorem sort_sg {w : World} {base : Nat} {v : Value} {l : List Sy} (h : w.ownsRow base 52 3 v l.length (syCells l)) (hl : l.length ≤ 100) (ha : Apart syName l) :
    Calls Tryz.prog 14 #[v, .func (.func 15) #[] #[]] w fun e w' => e = .returned (.tuple #[]) ∧ (∃ l', l'.Perm l ∧ RisesB syName l' ∧ SlAt (fun b => (v.ownBlock = some b ∧ base ≤ b) ∧ b < w'.heap.size) (SyAt w') 3 l' v) ∧ w.grownBy w' v.ownBlock := by
  have hml : l.length ≤ maxLen := by unfold maxLen; omega
  by_cases he : l = []
  · subst he
    obtain ⟨a, cap, rfl⟩ : ∃ a cap, v = .slice a 0 cap := by
      obtain ⟨_, ⟨hv, _⟩ | ⟨g, cap, cur, hv, _⟩⟩ := h
      · exact ⟨_, _, hv⟩
      · exact ⟨_, _, hv⟩
    have hc := AnyF.slices_SortFunc_none Tryz.sortSg a cap (.func (.func 15) #[] #[]) w
    change Calls Tryz.prog 14 _ _ _ at hc
    refine hc.mono ?_
    rintro e w' ⟨rfl, rfl⟩
    refine ⟨rfl, ⟨[], List.Perm.refl _, List.Pairwise.nil, a, cap, rfl, ⟨by simp, by simp⟩, Or.inl rfl⟩, ⟨rfl, rfl, rfl, Nat.le_refl _, fun _ _ _ => rfl⟩⟩
  · have hpos : 0 < l.length := List.length_pos_iff.2 he
    obtain ⟨g, cap, rfl, hg, hgl⟩ := h.form hpos
    have hH : HoldsK encSy 3 w g 0 l.toArray := owns_holds encSy 3 (fun _ => rfl) (by omega) h
    have hcap : l.length ≤ cap := by
      obtain ⟨_, ⟨hv, _⟩ | ⟨g', cap', cur, hv, _, _, h1, _⟩⟩ := h
      · cases hv
      · injection hv with _ _ e3
        subst e3; exact h1
    have hsz : l.toArray.size = l.length := by simp
    have eg : ∀ args w, (callFunc 15 args).run Tryz.prog w = .ok (.enter 15 args) w := enters_of Tryz.func15 (by kernel_rfl) rfl
    have hcmp : CmpLays Tryz.prog 15 #[] encSy 3 (cmpN syName) g 0 l.toArray.size w := fun _ _ _ _ x y => byName_sg x y _
    have hc := AnyQ.slices_SortFunc Tryz.sortSg 3 Tryz.isAgg52 Tryz.sizeOf52 encSy (fun _ => rfl) (fun x v hv => by simp [encSy] at hv; rcases hv with rfl | rfl | rfl <;> rfl) (cmpN syName) (swo_cmpN syName) 15 #[] g 0 cap l.toArray w eg hcmp hH hgl (by rw [hsz]; omega)
    change Calls Tryz.prog 14 _ _ _ at hc
    rw [hsz] at hc
    refine hc.mono ?_
    rintro e w' ⟨rfl, d', n, os, hp, hs, rfl⟩
    have hp' : Sort.PermIn 0 l.toArray.size l.toArray d' := by rw [hsz]; exact hp
    have hs' : Sort.SortedIn (ltOf (cmpN syName)) 0 l.toArray.size d' := by rw [hsz]; exact hs
    obtain ⟨hperm, hrise⟩ := sorted_rises syName hp' hs' (by simpa using ha)
    have hlen : d'.toList.length = l.length := by rw [hperm.length_eq]
    have hds : d'.size = l.toArray.size := by rw [hsz, ← hlen, Array.length_toList]
    have hH' := sortWorld_holds encSy 3 (m := n) (os := os) hH hgl hds
    have hbl := sortWorld_grown encSy 3 (w := w) (g := g) (m := n) (d := d') (os := os)
    refine ⟨rfl, ⟨d'.toList, by simpa using hperm, hrise, some ⟨g, 0, none⟩, cap, by rw [hlen], ⟨by rw [hlen]; exact hml, by rw [hlen]; exact hcap⟩, Or.inr ⟨g, 0, rfl, ⟨⟨rfl, hg⟩, Nat.lt_of_lt_of_le hgl ?_⟩, RowAt.mk fun i hi => ?_⟩⟩, hbl⟩
    · simp [sortWorldK, grow, putRowK, putRow, mapBlock]
    · have hi' : i < d'.size := by simpa using hi
      have g0 := (hH' (i * 3) (by rw [size_flatK]; omega)).1
      have g1 := (hH' (i * 3 + 1) (by rw [size_flatK]; omega)).1
      have g2 := (hH' (i * 3 + 2) (by rw [size_flatK]; omega)).1
      rw [get_flatK _ _ _ _ (by omega), show i * 3 / 3 = i by omega, show i * 3 % 3 = 0 by omega] at g0
      rw [get_flatK _ _ _ _ (by omega), show (i * 3 + 1) / 3 = i by omega, show (i * 3 + 1) % 3 = 1 by omega] at g1
      rw [get_flatK _ _ _ _ (by omega), show (i * 3 + 2) / 3 = i by omega, show (i * 3 + 2) % 3 = 2 by omega] at g2
      have e0 : d'[i]! = d'.toList[i] := by simp [getElem!_pos, hi']
      rw [e0] at g0 g1 g2
      exact ⟨by simpa [encSy] using g0, by simpa [encSy, syVal, Nat.add_assoc] using g1, by simpa [encSy, Nat.add_assoc] using g2⟩

end Go.Proofs.YtkdailcadcfepafGreat
