/- A face, or a list of imports, that can be read as data lies in memory as a plain one; and none of its texts and lists is greater than what the form allows. -/
import Derived.Test.YtedpiamfpbdhoaaFace
import Derived.Deep.Slices
import Derived.SizedLaws
import Derived.ProofKit
namespace Go.Proofs.Ytedpiamfpbdhoaa
open Go.RowKit

theorem cellsS : Try.prog.cellsOf 9 = 1 := by kernel_rfl
theorem cellsStrs : Try.prog.cellsOf 26 = 1 := by kernel_rfl
theorem bytesS : Try.prog.bytesOf 9 = 16 := by kernel_rfl

def knSmall (k : Kn) : Prop := k.name.size ≤ reachBytes ∧ k.is.size ≤ reachBytes
def sgSmall (g : Sg) : Prop := g.name.size ≤ reachBytes ∧ g.result.size ≤ reachBytes ∧ g.params.length * 16 ≤ reachBytes ∧ ∀ p ∈ g.params, p.size ≤ reachBytes
def fcSmall (f : Fc) : Prop := (f.types.length * 32 ≤ reachBytes ∧ ∀ k ∈ f.types, knSmall k) ∧ f.funcs.length * 56 ≤ reachBytes ∧ ∀ g ∈ f.funcs, sgSmall g

/-- these cells lie there. -/
def LieAt (W : World) (cs : List Value) (b o : Nat) : Prop := b < W.heap.size ∧ ∀ j, j < cs.length → W.cell? ⟨b, o + j, none⟩ = cs[j]?

theorem weights_all {H : Type} {P : Program} {e : TypeId} : ∀ {l : List (DataW H)} {d : DataW H}, d ∈ l → ∀ n ∈ d.weights P e, n ∈ DataW.weightsAll P e l
  | [], _, h, _, _ => by cases h
  | x :: r, d, h, n, hn => by
    rw [DataW.weightsAll, List.mem_append]
    rcases List.mem_cons.1 h with rfl | h
    · exact .inl hn
    · exact .inr (weights_all h n hn)

theorem sl_readZ {α : Type} [Inhabited α] {H : Type} {enc : TypeId × Value → H} {W : World} {base : Nat} {spare : Nat → Bool} {held : Bool} {P : α → Nat → Nat → Prop} {Q : α → Prop} {c z : Nat} {t e : TypeId} (ht : Try.prog.underlying t = some (.slice e)) (hc : Try.prog.cellsOf e = c) (hz : Try.prog.bytesOf e = z) (h0 : 0 < c)
    {fuel : Nat} {cs : List Value} {x : DataW H × List MemPlace} (h : DataW.trod enc Try.prog W base spare held fuel t cs = some x) (hx : ∀ n ∈ x.1.weights Try.prog t, n ≤ reachBytes)
    (hel : ∀ (m : Nat) (cs' : List Value) (x' : DataW H × List MemPlace) (b o : Nat), DataW.trod enc Try.prog W base spare held m e cs' = some x' → (∀ n ∈ x'.1.weights Try.prog e, n ≤ reachBytes) → cs'.length = c → LieAt W cs' b o → ∃ y : α, P y b o ∧ Q y) :
    ∃ v l, cs = [v] ∧ SlAt (fun b => b < W.heap.size) P c l v ∧ l.length * z ≤ reachBytes ∧ ∀ y ∈ l, Q y := by
  rcases DataW.trod_slice ht h with ⟨hcs, _⟩ | ⟨a, len, cap, elems, rest, n, hfu, rfl, rfl, _, hlc, hcm, hlen, hels, _, _⟩
  · exact ⟨_, [], hcs, ⟨none, 0, rfl, ⟨by simp, by simp⟩, Or.inl rfl⟩, by simp, by simp⟩
  · by_cases hl0 : len = 0
    · subst hl0
      exact ⟨_, [], rfl, ⟨_, cap, rfl, ⟨by simp, by simp⟩, Or.inl rfl⟩, by simp, by simp⟩
    · have hw : (elems.length + rest.length) * z ≤ reachBytes := by
        have := hx ((elems.length + rest.length) * z) (by simp [DataW.weights, ht, hz])
        exact this
      have each : ∀ i, i < len → ∃ cs' x', W.cells? base (a.add (i * c)) c = some cs' ∧ DataW.trod enc Try.prog W base spare held n e cs' = some x' ∧ ∀ m ∈ x'.1.weights Try.prog e, m ≤ reachBytes := fun i hi => by
        have := hels i hi
        rw [hc, List.getElem?_eq_getElem (by omega)] at this
        obtain ⟨cs', h1, h2⟩ := Option.bind_eq_some_iff.1 this
        refine ⟨cs', _, h1, h2, fun m hm => hx m ?_⟩
        have hmem : (elems[i]'(by omega)).1 ∈ elems.map (·.1) := List.mem_map_of_mem (List.getElem_mem _)
        have := weights_all (P := Try.prog) (e := e) hmem m hm
        simp only [DataW.weights, ht]
        exact List.mem_cons_of_mem _ (List.mem_append_left _ this)
      obtain ⟨b, off, spot⟩ := a
      have hspot : spot = none := by
        obtain ⟨cs', x', h1, _⟩ := each 0 (by omega)
        obtain ⟨_, hl, hce⟩ := World.cells?_some h1
        have := hce 0 h0
        rw [List.getElem?_eq_getElem (by omega)] at this
        simpa [Addr.add] using World.cell?_spot this
      subst hspot
      have each2 : ∀ i, i < len → ∃ y : α, P y b (off + i * c) ∧ Q y := fun i hi => by
        obtain ⟨cs', x', h1, h2, h3⟩ := each i hi
        obtain ⟨_, hl, hce⟩ := World.cells?_some h1
        have cell : ∀ j, j < cs'.length → W.cell? ⟨b, off + i * c + j, none⟩ = cs'[j]? := fun j hj => by
          have := hce j (by omega)
          rw [Go.WideShapes.add_plain, Go.WideShapes.add_plain] at this
          exact this
        refine hel n cs' x' b (off + i * c) h2 h3 hl ⟨?_, cell⟩
        have := cell 0 (by omega)
        rw [List.getElem?_eq_getElem (by omega)] at this
        exact World.block_lt_of_cell? W _ this
      obtain ⟨q, hq⟩ := Deep.choose_lt each2
      have hb : b < W.heap.size := by
        obtain ⟨cs', x', h1, _⟩ := each 0 (by omega)
        obtain ⟨_, hl, hce⟩ := World.cells?_some h1
        have := hce 0 h0
        rw [List.getElem?_eq_getElem (by omega), Go.WideShapes.add_plain, Go.WideShapes.add_plain] at this
        exact World.block_lt_of_cell? W _ this
      refine ⟨_, (List.range len).map q, rfl, ⟨some ⟨b, off, none⟩, cap, by simp, ⟨by simp; omega, by simp; omega⟩, Or.inr ⟨b, off, rfl, hb, RowAt.mk fun i hi => ?_⟩⟩, ?_, ?_⟩
      · have hi' : i < len := by simpa using hi
        simpa using (hq i hi').1
      · rw [List.length_map, List.length_range, ← hlen]
        exact Nat.le_trans (Nat.mul_le_mul_right z (Nat.le_add_right _ _)) hw
      · intro y hy
        obtain ⟨i, hi, rfl⟩ := List.mem_map.1 hy
        exact (hq i (List.mem_range.1 hi)).2

theorem agg_each {H : Type} {P : Program} {t : TypeId} {fs : Array Field} (ht : P.underlying t = some (.struct fs)) {ys : List (DataW H × List MemPlace)} {pl : List MemPlace} (hx : ∀ n ∈ (DataW.agg (ys.map (·.1)), pl).1.weights P t, n ≤ reachBytes)
    {j : Nat} {u : TypeId} {y : DataW H × List MemPlace} (hu : (fs.toList.map (·.type))[j]? = some u) (hy : ys[j]? = some y) : ∀ n ∈ y.1.weights P u, n ≤ reachBytes := fun n hn => by
  refine hx n ?_
  simp only [DataW.weights, ht]
  exact DataW.weights_mem_each hu (by rw [List.getElem?_map, hy]; rfl) n hn

section
variable {H : Type} {enc : TypeId × Value → H} {W : World} {base : Nat} {spare : Nat → Bool} {held : Bool}

theorem str_readZ {m : Nat} {cs : List Value} {x : DataW H × List MemPlace} (h : DataW.trod enc Try.prog W base spare held m 9 cs = some x) (hx : ∀ n ∈ x.1.weights Try.prog 9, n ≤ reachBytes) : ∃ s, cs = [.string s] ∧ s.size ≤ maxLen ∧ s.size ≤ reachBytes := by
  obtain ⟨s, rfl, rfl, hs⟩ := DataW.trod_string Try.underlying9 h
  exact ⟨s, rfl, hs, by simpa using hx s.data.toList.length (by simp [DataW.weights])⟩

end
end Go.Proofs.Ytedpiamfpbdhoaa
