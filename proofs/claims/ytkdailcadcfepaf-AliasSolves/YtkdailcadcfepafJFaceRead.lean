/- A face, or a list of imports, that can be read as data lies in memory as a plain one; and none of its texts and lists is greater than what the form allows. -/
import Derived.Test.YtkdailcadcfepafJFace
import Derived.Deep.Slices
import Derived.SizedLaws
import Derived.ProofKit
namespace Go.Proofs.Ytkdailcadcfepaf
open Go.RowKit

theorem cellsKn : Try.prog.cellsOf 74 = 2 := by kernel_rfl
theorem cellsSg : Try.prog.cellsOf 49 = 3 := by kernel_rfl
theorem cellsFc : Try.prog.cellsOf 47 = 2 := by kernel_rfl
theorem cellsS : Try.prog.cellsOf 9 = 1 := by kernel_rfl
theorem cellsKns : Try.prog.cellsOf 41 = 1 := by kernel_rfl
theorem cellsSgs : Try.prog.cellsOf 45 = 1 := by kernel_rfl
theorem cellsStrs : Try.prog.cellsOf 22 = 1 := by kernel_rfl
theorem bytesKn : Try.prog.bytesOf 74 = 32 := by kernel_rfl
theorem bytesSg : Try.prog.bytesOf 49 = 56 := by kernel_rfl
theorem bytesS : Try.prog.bytesOf 9 = 16 := by kernel_rfl

def knSmall (k : Kn) : Prop := k.name.size ≤ reachBytes ∧ k.is.size ≤ reachBytes
def sgSmall (g : Sg) : Prop := g.name.size ≤ reachBytes ∧ g.result.size ≤ reachBytes ∧ g.params.length * 16 ≤ reachBytes ∧ ∀ p ∈ g.params, p.size ≤ reachBytes
def fcSmall (f : Fc) : Prop := (f.types.length * 32 ≤ reachBytes ∧ ∀ k ∈ f.types, knSmall k) ∧ f.funcs.length * 56 ≤ reachBytes ∧ ∀ g ∈ f.funcs, sgSmall g

/-- these cells lie there. -/
def LieAt (W : World) (cs : List Value) (b o : Nat) : Prop := b < W.heap.size ∧ ∀ j, j < cs.length → W.cell? ⟨b, o + j, none⟩ = cs[j]?

theorem weights_all {H : Type} {P : Program} {e : TypeId} : ∀ {l : List (DataW H)} {d : DataW H}, d ∈ l → ∀ n ∈ d.weights P e, n ∈ DataW.weightsAll P e l
  | [], _, h, _, _ => by cases h
  | x :: r, d, h, n, hn => by
    rw [DataW.weightsAll, List.mem_append]
    rcases List.mem_cons.1 h with rfl | h
    · exact .inl hn
    · exact .inr (weights_all h n hn)

theorem sl_readZ {α : Type} [Inhabited α] {H : Type} {enc : TypeId × Value → H} {W : World} {base : Nat} {spare : Nat → Bool} {held : Bool} {P : α → Nat → Nat → Prop} {Q : α → Prop} {c z : Nat} {t e : TypeId} (ht : Try.prog.underlying t = some (.slice e)) (hc : Try.prog.cellsOf e = c) (hz : Try.prog.bytesOf e = z) (h0 : 0 < c)
    {fuel : Nat} {cs : List Value} {x : DataW H × List MemPlace} (h : DataW.trod enc Try.prog W base spare held fuel t cs = some x) (hx : ∀ n ∈ x.1.weights Try.prog t, n ≤ reachBytes)
    (hel : ∀ (m : Nat) (cs' : List Value) (x' : DataW H × List MemPlace) (b o : Nat), DataW.trod enc Try.prog W base spare held m e cs' = some x' → (∀ n ∈ x'.1.weights Try.prog e, n ≤ reachBytes) → cs'.length = c → LieAt W cs' b o → ∃ y : α, P y b o ∧ Q y) :
    ∃ v l, cs = [v] ∧ SlAt (fun b => b < W.heap.size) P c l v ∧ l.length * z ≤ reachBytes ∧ ∀ y ∈ l, Q y := by
  rcases DataW.trod_slice ht h with ⟨hcs, _⟩ | ⟨a, len, cap, elems, rest, n, hfu, rfl, rfl, _, hlc, hcm, hlen, hels, _, _⟩
  · exact ⟨_, [], hcs, ⟨none, 0, rfl, ⟨by simp, by simp⟩, Or.inl rfl⟩, by simp, by simp⟩
  · by_cases hl0 : len = 0
    · subst hl0
      exact ⟨_, [], rfl, ⟨_, cap, rfl, ⟨by simp, by simp⟩, Or.inl rfl⟩, by simp, by simp⟩
    · have hw : (elems.length + rest.length) * z ≤ reachBytes := by
        have := hx ((elems.length + rest.length) * z) (by simp [DataW.weights, ht, hz])
        exact this
      have each : ∀ i, i < len → ∃ cs' x', W.cells? base (a.add (i * c)) c = some cs' ∧ DataW.trod enc Try.prog W base spare held n e cs' = some x' ∧ ∀ m ∈ x'.1.weights Try.prog e, m ≤ reachBytes := fun i hi => by
        have := hels i hi
        rw [hc, List.getElem?_eq_getElem (by omega)] at this
        obtain ⟨cs', h1, h2⟩ := Option.bind_eq_some_iff.1 this
        refine ⟨cs', _, h1, h2, fun m hm => hx m ?_⟩
        have hmem : (elems[i]'(by omega)).1 ∈ elems.map (·.1) := List.mem_map_of_mem (List.getElem_mem _)
        have := weights_all (P := Try.prog) (e := e) hmem m hm
        simp only [DataW.weights, ht]
        exact List.mem_cons_of_mem _ (List.mem_append_left _ this)
      obtain ⟨b, off, spot⟩ := a
      have hspot : spot = none := by
        obtain ⟨cs', x', h1, _⟩ := each 0 (by omega)
        obtain ⟨_, hl, hce⟩ := World.cells?_some h1
        have := hce 0 h0
        rw [List.getElem?_eq_getElem (by omega)] at this
        simpa [Addr.add] using World.cell?_spot this
      subst hspot
      have each2 : ∀ i, i < len → ∃ y : α, P y b (off + i * c) ∧ Q y := fun i hi => by
        obtain ⟨cs', x', h1, h2, h3⟩ := each i hi
        obtain ⟨_, hl, hce⟩ := World.cells?_some h1
        have cell : ∀ j, j < cs'.length → W.cell? ⟨b, off + i * c + j, none⟩ = cs'[j]? := fun j hj => by
          have := hce j (by omega)
          rw [Go.WideShapes.add_plain, Go.WideShapes.add_plain] at this
          exact this
        refine hel n cs' x' b (off + i * c) h2 h3 hl ⟨?_, cell⟩
        have := cell 0 (by omega)
        rw [List.getElem?_eq_getElem (by omega)] at this
        exact World.block_lt_of_cell? W _ this
      obtain ⟨q, hq⟩ := Deep.choose_lt each2
      have hb : b < W.heap.size := by
        obtain ⟨cs', x', h1, _⟩ := each 0 (by omega)
        obtain ⟨_, hl, hce⟩ := World.cells?_some h1
        have := hce 0 h0
        rw [List.getElem?_eq_getElem (by omega), Go.WideShapes.add_plain, Go.WideShapes.add_plain] at this
        exact World.block_lt_of_cell? W _ this
      refine ⟨_, (List.range len).map q, rfl, ⟨some ⟨b, off, none⟩, cap, by simp, ⟨by simp; omega, by simp; omega⟩, Or.inr ⟨b, off, rfl, hb, RowAt.mk fun i hi => ?_⟩⟩, ?_, ?_⟩
      · have hi' : i < len := by simpa using hi
        simpa using (hq i hi').1
      · rw [List.length_map, List.length_range, ← hlen]
        exact Nat.le_trans (Nat.mul_le_mul_right z (Nat.le_add_right _ _)) hw
      · intro y hy
        obtain ⟨i, hi, rfl⟩ := List.mem_map.1 hy
        exact (hq i (List.mem_range.1 hi)).2

theorem agg_each {H : Type} {P : Program} {t : TypeId} {fs : Array Field} (ht : P.underlying t = some (.struct fs)) {ys : List (DataW H × List MemPlace)} {pl : List MemPlace} (hx : ∀ n ∈ (DataW.agg (ys.map (·.1)), pl).1.weights P t, n ≤ reachBytes)
    {j : Nat} {u : TypeId} {y : DataW H × List MemPlace} (hu : (fs.toList.map (·.type))[j]? = some u) (hy : ys[j]? = some y) : ∀ n ∈ y.1.weights P u, n ≤ reachBytes := fun n hn => by
  refine hx n ?_
  simp only [DataW.weights, ht]
  exact DataW.weights_mem_each hu (by rw [List.getElem?_map, hy]; rfl) n hn

section
variable {H : Type} {enc : TypeId × Value → H} {W : World} {base : Nat} {spare : Nat → Bool} {held : Bool}

theorem str_readZ {m : Nat} {cs : List Value} {x : DataW H × List MemPlace} (h : DataW.trod enc Try.prog W base spare held m 9 cs = some x) (hx : ∀ n ∈ x.1.weights Try.prog 9, n ≤ reachBytes) : ∃ s, cs = [.string s] ∧ s.size ≤ maxLen ∧ s.size ≤ reachBytes := by
  obtain ⟨s, rfl, rfl, hs⟩ := DataW.trod_string Try.underlying9 h
  exact ⟨s, rfl, hs, by simpa using hx s.data.toList.length (by simp [DataW.weights])⟩

set_option maxRecDepth 100000 in
theorem kn_read (fuel : Nat) (cs : List Value) (x : DataW H × List MemPlace) (h : DataW.trod enc Try.prog W base spare held fuel 74 cs = some x) (hx : ∀ n ∈ x.1.weights Try.prog 74, n ≤ reachBytes) :
    ∃ k : Kn, cs = [.string k.name, .string k.is] ∧ k.name.size ≤ maxLen ∧ k.is.size ≤ maxLen ∧ knSmall k := by
  obtain ⟨ys, n, _, rfl, hlen, hyl0, hf⟩ := DataW.trod_struct Try.underlying74 h
  rw [cellsKn] at hlen
  match cs, hlen with
  | [v0, v1], _ =>
    have g0 : DataW.trod enc Try.prog W base spare held n 9 (([v0, v1].drop 0).take (Try.prog.cellsOf 9)) = ys[0]? := hf 0 _ rfl
    rw [cellsS] at g0
    have g1 : DataW.trod enc Try.prog W base spare held n 9 (([v0, v1].drop 1).take (Try.prog.cellsOf 9)) = ys[1]? := hf 1 _ rfl
    rw [cellsS] at g1
    have hyl : ys.length = 2 := hyl0
    obtain ⟨y0, e0⟩ : ∃ y, ys[0]? = some y := ⟨_, List.getElem?_eq_getElem (by omega)⟩
    obtain ⟨y1, e1⟩ : ∃ y, ys[1]? = some y := ⟨_, List.getElem?_eq_getElem (by omega)⟩
    obtain ⟨a, ha, has, haz⟩ := str_readZ (g0.trans e0) (agg_each Try.underlying74 hx rfl e0)
    obtain ⟨r, hr, hrs, hrz⟩ := str_readZ (g1.trans e1) (agg_each Try.underlying74 hx rfl e1)
    simp at ha hr
    subst ha hr
    exact ⟨⟨a, r⟩, rfl, has, hrs, haz, hrz⟩

set_option maxRecDepth 100000 in
theorem sg_read (fuel : Nat) (cs : List Value) (x : DataW H × List MemPlace) (h : DataW.trod enc Try.prog W base spare held fuel 49 cs = some x) (hx : ∀ n ∈ x.1.weights Try.prog 49, n ≤ reachBytes) :
    ∃ (g : Sg) (vp : Value), cs = [.string g.name, vp, .string g.result] ∧ g.name.size ≤ maxLen ∧ g.result.size ≤ maxLen ∧ SlAt (fun b => b < W.heap.size) (StrAt W) 1 g.params vp ∧ sgSmall g := by
  obtain ⟨ys, n, _, rfl, hlen, hyl0, hf⟩ := DataW.trod_struct Try.underlying49 h
  rw [cellsSg] at hlen
  match cs, hlen with
  | [v0, v1, v2], _ =>
    have g0 : DataW.trod enc Try.prog W base spare held n 9 (([v0, v1, v2].drop 0).take (Try.prog.cellsOf 9)) = ys[0]? := hf 0 _ rfl
    rw [cellsS] at g0
    have g1 : DataW.trod enc Try.prog W base spare held n 22 (([v0, v1, v2].drop 1).take (Try.prog.cellsOf 22)) = ys[1]? := hf 1 _ rfl
    rw [cellsStrs] at g1
    have g2 : DataW.trod enc Try.prog W base spare held n 9 (([v0, v1, v2].drop 2).take (Try.prog.cellsOf 9)) = ys[2]? := hf 2 _ rfl
    rw [cellsS] at g2
    have hyl : ys.length = 3 := hyl0
    obtain ⟨y0, e0⟩ : ∃ y, ys[0]? = some y := ⟨_, List.getElem?_eq_getElem (by omega)⟩
    obtain ⟨y1, e1⟩ : ∃ y, ys[1]? = some y := ⟨_, List.getElem?_eq_getElem (by omega)⟩
    obtain ⟨y2, e2⟩ : ∃ y, ys[2]? = some y := ⟨_, List.getElem?_eq_getElem (by omega)⟩
    obtain ⟨a, ha, has, haz⟩ := str_readZ (g0.trans e0) (agg_each Try.underlying49 hx rfl e0)
    obtain ⟨r, hr, hrs, hrz⟩ := str_readZ (g2.trans e2) (agg_each Try.underlying49 hx rfl e2)
    obtain ⟨vp, l, hvp, hsl, hlz, hle⟩ := sl_readZ (P := StrAt W) (Q := fun s => s.size ≤ reachBytes) Try.underlying22 cellsS bytesS (by omega) (g1.trans e1) (agg_each Try.underlying49 hx rfl e1) (fun m' cs' x' b o hx' hz' _ hl' => by
      obtain ⟨s, rfl, hs, hsz⟩ := str_readZ hx' hz'
      exact ⟨s, ⟨hl'.2 0 (by simp), hs⟩, hsz⟩)
    simp at ha hr hvp
    subst ha hr hvp
    exact ⟨⟨a, l, r⟩, v1, rfl, has, hrs, hsl, haz, hrz, hlz, hle⟩

set_option maxRecDepth 100000 in
theorem fc_read (fuel : Nat) (cs : List Value) (x : DataW H × List MemPlace) (h : DataW.trod enc Try.prog W base spare held fuel 47 cs = some x) (hx : ∀ n ∈ x.1.weights Try.prog 47, n ≤ reachBytes) :
    ∃ (f : Fc) (vt vf : Value), cs = [vt, vf] ∧ FcCs (fun b => b < W.heap.size) W f vt vf ∧ fcSmall f := by
  obtain ⟨ys, n, _, rfl, hlen, hyl0, hf⟩ := DataW.trod_struct Try.underlying47 h
  rw [cellsFc] at hlen
  match cs, hlen with
  | [v0, v1], _ =>
    have g0 : DataW.trod enc Try.prog W base spare held n 41 (([v0, v1].drop 0).take (Try.prog.cellsOf 41)) = ys[0]? := hf 0 _ rfl
    rw [cellsKns] at g0
    have g1 : DataW.trod enc Try.prog W base spare held n 45 (([v0, v1].drop 1).take (Try.prog.cellsOf 45)) = ys[1]? := hf 1 _ rfl
    rw [cellsSgs] at g1
    have hyl : ys.length = 2 := hyl0
    obtain ⟨y0, e0⟩ : ∃ y, ys[0]? = some y := ⟨_, List.getElem?_eq_getElem (by omega)⟩
    obtain ⟨y1, e1⟩ : ∃ y, ys[1]? = some y := ⟨_, List.getElem?_eq_getElem (by omega)⟩
    obtain ⟨vt, lt, hvt, hst, htz, hte⟩ := sl_readZ (P := KnAt W) (Q := knSmall) Try.underlying41 cellsKn bytesKn (by omega) (g0.trans e0) (agg_each Try.underlying47 hx rfl e0) (fun m' cs' x' b o hx' hz' _ hl' => by
      obtain ⟨k, rfl, h1, h2, h3⟩ := kn_read _ _ _ hx' hz'
      exact ⟨k, ⟨⟨hl'.2 0 (by simp), h1⟩, hl'.2 1 (by simp), h2⟩, h3⟩)
    obtain ⟨vf, lf, hvf, hsf, hfz, hfe⟩ := sl_readZ (P := SgAt (fun b => b < W.heap.size) W) (Q := sgSmall) Try.underlying45 cellsSg bytesSg (by omega) (g1.trans e1) (agg_each Try.underlying47 hx rfl e1) (fun m' cs' x' b o hx' hz' _ hl' => by
      obtain ⟨g, vp, rfl, h1, h2, h3, h4⟩ := sg_read _ _ _ hx' hz'
      exact ⟨g, ⟨⟨hl'.2 0 (by simp), h1⟩, ⟨vp, hl'.2 1 (by simp), h3⟩, hl'.2 2 (by simp), h2⟩, h4⟩)
    simp at hvt hvf
    subst hvt hvf
    exact ⟨⟨lt, lf⟩, v0, v1, rfl, ⟨hst, hsf⟩, ⟨htz, hte⟩, hfz, hfe⟩

theorem cellsIm : Try.prog.cellsOf 93 = 4 := by kernel_rfl
theorem cellsIms : Try.prog.cellsOf 27 = 1 := by kernel_rfl
theorem cellsB : Try.prog.cellsOf 4 = 1 := by kernel_rfl
theorem bytesIm : Try.prog.bytesOf 93 = 72 := by kernel_rfl

set_option maxRecDepth 100000 in
theorem im_readZ (fuel : Nat) (cs : List Value) (x : DataW H × List MemPlace) (h : DataW.trod enc Try.prog W base spare held fuel 93 cs = some x) (hx : ∀ n ∈ x.1.weights Try.prog 93, n ≤ reachBytes) :
    ∃ (i : Im) (vt vf : Value), cs = [.string i.name, .bool i.there, vt, vf] ∧ i.name.size ≤ maxLen ∧ FcCs (fun b => b < W.heap.size) W i.face vt vf ∧ fcSmall i.face := by
  obtain ⟨ys, n, _, rfl, hlen, hyl0, hf⟩ := DataW.trod_struct Try.underlying93 h
  rw [cellsIm] at hlen
  match cs, hlen with
  | [v0, v1, v2, v3], _ =>
    have g0 : DataW.trod enc Try.prog W base spare held n 9 (([v0, v1, v2, v3].drop 0).take (Try.prog.cellsOf 9)) = ys[0]? := hf 0 _ rfl
    rw [cellsS] at g0
    have g1 : DataW.trod enc Try.prog W base spare held n 4 (([v0, v1, v2, v3].drop 1).take (Try.prog.cellsOf 4)) = ys[1]? := hf 1 _ rfl
    rw [cellsB] at g1
    have g2 : DataW.trod enc Try.prog W base spare held n 47 (([v0, v1, v2, v3].drop 2).take (Try.prog.cellsOf 47)) = ys[2]? := hf 2 _ rfl
    rw [cellsFc] at g2
    have hyl : ys.length = 3 := hyl0
    obtain ⟨y0, e0⟩ : ∃ y, ys[0]? = some y := ⟨_, List.getElem?_eq_getElem (by omega)⟩
    obtain ⟨y1, e1⟩ : ∃ y, ys[1]? = some y := ⟨_, List.getElem?_eq_getElem (by omega)⟩
    obtain ⟨y2, e2⟩ : ∃ y, ys[2]? = some y := ⟨_, List.getElem?_eq_getElem (by omega)⟩
    obtain ⟨a, ha, has, _⟩ := str_readZ (g0.trans e0) (agg_each Try.underlying93 hx rfl e0)
    obtain ⟨b, hb, _⟩ := DataW.trod_bool Try.underlying4 (g1.trans e1)
    obtain ⟨f, vt, vf, hcs, hfc, hsm⟩ := fc_read n _ _ (g2.trans e2) (agg_each Try.underlying93 hx rfl e2)
    simp at ha hb hcs
    obtain ⟨rfl, rfl⟩ := hcs
    subst ha hb
    exact ⟨⟨a, b, f⟩, v2, v3, rfl, has, hfc, hsm⟩

theorem im_read (fuel : Nat) (cs : List Value) (x : DataW H × List MemPlace) (h : DataW.trod enc Try.prog W base spare held fuel 93 cs = some x) (hx : ∀ n ∈ x.1.weights Try.prog 93, n ≤ reachBytes) :
    ∃ (i : Im) (vt vf : Value), cs = [.string i.name, .bool i.there, vt, vf] ∧ i.name.size ≤ maxLen ∧ FcCs (fun b => b < W.heap.size) W i.face vt vf := by
  obtain ⟨i, vt, vf, h1, h2, h3, _⟩ := im_readZ fuel cs x h hx
  exact ⟨i, vt, vf, h1, h2, h3⟩

end
end Go.Proofs.Ytkdailcadcfepaf
