/- slices.SortFunc of types by their names, with strings.Compare. -/
import Derived.Test.YtkdailcadcfepafGreatJSortRow
import Derived.Test.YtkdailcadcfepafGreatShelfS
namespace Go.Proofs.YtkdailcadcfepafGreat
open Go.RowKit Go.Shelf
set_option maxRecDepth 100000
open Go.Sort (grow putRowK putRow mapBlock ahead onCells HoldsK Holds flatK size_flatK get_flatK alloc_eq_grow grow_grow)

def encKn (x : Kn) : List Value := [.string x.name, .string x.is]
def knCells (l : List Kn) : List Value := l.flatMap encKn
theorem knCells_snoc (l : List Kn) (x : Kn) : knCells (l ++ [x]) = knCells l ++ [.string x.name, .string x.is] := by simp [knCells, encKn]

set_option maxHeartbeats 1000000 in
/-- the closure. -/
theorem byName_kn (x y : Kn) (W : World) : Calls Tryz.prog 26 #[.agg #[.string x.name, .string x.is], .agg #[.string y.name, .string y.is]] W fun e w' => e = .returned (.int .i64 (cmpN Kn.name x y)) ∧ ∃ q os', w' = grow (W.drewN q) os' := by
  have HC : Hid (∀ W, Calls Tryz.prog 16 #[.string x.name, .string y.name] W fun e w' => e = .returned (.int .i64 (Lib.compareBytes x.name.data.toList y.name.data.toList)) ∧ w' = W) := fun W => Tryz.strings_Compare x.name y.name W
  have HE : Hid (cmpN Kn.name x y = Lib.compareBytes x.name.data.toList y.name.data.toList) := rfl
  generalize cmpN Kn.name x y = r at *
  generalize Lib.compareBytes x.name.data.toList y.name.data.toList = r' at *
  go_enter Tryz.func26, Tryz.ntmps26
  go_wp2_with fail
  refine (HC.out _).mono ?_
  rintro e w' ⟨rfl, rfl⟩
  go_wp2_with fail
  go_ret
  exact ⟨by rw [HE.out]; rfl, 0, _, by rw [alloc_eq_grow, alloc_eq_grow, grow_grow]; rfl⟩

/-- what the sort leaves. -/
def KnSorted (base : Nat) (v : Value) (l l' : List Kn) (w' : World) : Prop := l'.Perm l ∧ RisesB Kn.name l' ∧ SlAt (fun b => base ≤ b ∧ b < w'.heap.size) (KnAt w') 2 l' v

theorem sort_kn {w : World} {base : Nat} {v : Value} {l : List Kn} (h : w.ownsRow base 62 2 v l.length (knCells l)) (hl : l.length ≤ 100) (hz : ∀ x ∈ l, x.name.size ≤ maxLen ∧ x.is.size ≤ maxLen) (ha : Apart Kn.name l) :
    Calls Tryz.prog 25 #[v, .func (.func 26) #[] #[]] w fun e w' => e = .returned (.tuple #[]) ∧ (∃ l', KnSorted base v l l' w') ∧ w.grownBy w' v.ownBlock := by
  have hml : l.length ≤ maxLen := by unfold maxLen; omega
  by_cases he : l = []
  · subst he
    obtain ⟨a, cap, rfl⟩ : ∃ a cap, v = .slice a 0 cap := by
      obtain ⟨_, ⟨hv, _⟩ | ⟨g, cap, cur, hv, _⟩⟩ := h
      · exact ⟨_, _, hv⟩
      · exact ⟨_, _, hv⟩
    have hc := AnyF.slices_SortFunc_none Tryz.sortKn a cap (.func (.func 26) #[] #[]) w
    change Calls Tryz.prog 25 _ _ _ at hc
    refine hc.mono ?_
    rintro e w' ⟨rfl, rfl⟩
    refine ⟨rfl, ⟨[], List.Perm.refl _, List.Pairwise.nil, a, cap, rfl, ⟨by simp, by simp⟩, Or.inl rfl⟩, ⟨rfl, rfl, rfl, Nat.le_refl _, fun _ _ _ => rfl⟩⟩
  · have hpos : 0 < l.length := List.length_pos_iff.2 he
    obtain ⟨g, cap, rfl, hg, hgl⟩ := h.form hpos
    have hH : HoldsK encKn 2 w g 0 l.toArray := owns_holds encKn 2 (fun _ => rfl) (by omega) h
    have hcap : l.length ≤ cap := by
      obtain ⟨_, ⟨hv, _⟩ | ⟨g', cap', cur, hv, _, _, h1, _⟩⟩ := h
      · cases hv
      · injection hv with _ _ e3
        subst e3; exact h1
    have hsz : l.toArray.size = l.length := by simp
    have eg : ∀ args w, (callFunc 26 args).run Tryz.prog w = .ok (.enter 26 args) w := enters_of Tryz.func26 (by kernel_rfl) rfl
    have hcmp : CmpLays Tryz.prog 26 #[] encKn 2 (cmpN Kn.name) g 0 l.toArray.size w := fun _ _ _ _ x y => byName_kn x y _
    have hc := AnyQ.slices_SortFunc Tryz.sortKn 2 Tryz.isAgg62 Tryz.sizeOf62 encKn (fun _ => rfl) (fun x v hv => by simp [encKn] at hv; rcases hv with rfl | rfl <;> rfl) (cmpN Kn.name) (swo_cmpN Kn.name) 26 #[] g 0 cap l.toArray w eg hcmp hH hgl (by rw [hsz]; omega)
    change Calls Tryz.prog 25 _ _ _ at hc
    rw [hsz] at hc
    refine hc.mono ?_
    rintro e w' ⟨rfl, d', n, os, hp, hs, rfl⟩
    have hp' : Sort.PermIn 0 l.toArray.size l.toArray d' := by rw [hsz]; exact hp
    have hs' : Sort.SortedIn (ltOf (cmpN Kn.name)) 0 l.toArray.size d' := by rw [hsz]; exact hs
    obtain ⟨hperm, hrise⟩ := sorted_rises Kn.name hp' hs' (by simpa using ha)
    have hlen : d'.toList.length = l.length := by rw [hperm.length_eq]
    have hds : d'.size = l.toArray.size := by rw [hsz, ← hlen, Array.length_toList]
    have hH' := sortWorld_holds encKn 2 (m := n) (os := os) hH hgl hds
    have hbl := sortWorld_grown encKn 2 (w := w) (g := g) (m := n) (d := d') (os := os)
    refine ⟨rfl, ⟨d'.toList, by simpa using hperm, hrise, some ⟨g, 0, none⟩, cap, by rw [hlen], ⟨by rw [hlen]; exact hml, by rw [hlen]; exact hcap⟩, Or.inr ⟨g, 0, rfl, ⟨hg, Nat.lt_of_lt_of_le hgl ?_⟩, RowAt.mk fun i hi => ?_⟩⟩, hbl⟩
    · simp [sortWorldK, grow, putRowK, putRow, mapBlock]
    · have hi' : i < d'.size := by simpa using hi
      have hmem : d'.toList[i] ∈ l := by
        have := hperm.subset (List.getElem_mem hi)
        simpa using this
      have g0 := (hH' (i * 2) (by rw [size_flatK]; omega)).1
      have g1 := (hH' (i * 2 + 1) (by rw [size_flatK]; omega)).1
      rw [get_flatK _ _ _ _ (by omega), show i * 2 / 2 = i by omega, show i * 2 % 2 = 0 by omega] at g0
      rw [get_flatK _ _ _ _ (by omega), show (i * 2 + 1) / 2 = i by omega, show (i * 2 + 1) % 2 = 1 by omega] at g1
      have e0 : d'[i]! = d'.toList[i] := by simp [getElem!_pos, hi']
      rw [e0] at g0 g1
      obtain ⟨z1, z2⟩ := hz _ hmem
      exact ⟨⟨by simpa [encKn] using g0, z1⟩, by simpa [encKn, Nat.add_assoc] using g1, z2⟩

end Go.Proofs.YtkdailcadcfepafGreat
