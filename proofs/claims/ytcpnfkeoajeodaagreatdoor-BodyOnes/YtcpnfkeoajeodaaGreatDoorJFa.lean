/- Plain faces: types' and functions' names with what they are; imports. How they lie in memory, and that they go on lying so where nothing of it turns; when two of them are the same. -/
import Derived.Test.YtcpnfkeoajeodaaGreatDoorJA
import Derived.Lib.Bytealg
import Derived.Deep.Slices
import Derived.SizedLaws
import Derived.ProofKit
import Derived.Deep.RegionWith
namespace Go.Proofs.YtcpnfkeoajeodaaGreatDoor
open Go.RowKit
set_option maxRecDepth 100000

structure Kn where
  name : ByteArray
  is : ByteArray
structure Sg where
  name : ByteArray
  params : List ByteArray
  result : ByteArray
structure Fc where
  types : List Kn
  funcs : List Sg
structure Im where
  name : ByteArray
  there : Bool
  face : Fc

instance : Inhabited Kn := ⟨⟨.empty, .empty⟩⟩
instance : Inhabited Sg := ⟨⟨.empty, [], .empty⟩⟩
instance : Inhabited Im := ⟨⟨.empty, false, ⟨[], []⟩⟩⟩

/-! ### How they lie in memory. -/

def KnAt (w : World) (k : Kn) (b o : Nat) : Prop := StrAt w k.name b o ∧ StrAt w k.is b (o + 1)
def SgAt (S : Nat → Prop) (w : World) (g : Sg) (b o : Nat) : Prop :=
  StrAt w g.name b o ∧ (∃ v, w.cell? ⟨b, o + 1, none⟩ = some v ∧ SlAt S (StrAt w) 1 g.params v) ∧ StrAt w g.result b (o + 2)
def SgIs (S : Nat → Prop) (w : World) (g : Sg) (v : Value) : Prop := ∃ vp, v = .agg #[.string g.name, vp, .string g.result] ∧ g.name.size ≤ maxLen ∧ g.result.size ≤ maxLen ∧ SlAt S (StrAt w) 1 g.params vp
/-- the two lists of a face. -/
def FcCs (S : Nat → Prop) (w : World) (f : Fc) (vt vf : Value) : Prop := SlAt S (KnAt w) 2 f.types vt ∧ SlAt S (SgAt S w) 3 f.funcs vf
def FcIs (S : Nat → Prop) (w : World) (f : Fc) (v : Value) : Prop := ∃ vt vf, v = .agg #[vt, vf] ∧ FcCs S w f vt vf
def ImAt (S : Nat → Prop) (w : World) (i : Im) (b o : Nat) : Prop :=
  StrAt w i.name b o ∧ w.cell? ⟨b, o + 1, none⟩ = some (.bool i.there) ∧ ∃ vt vf, w.cell? ⟨b, o + 2, none⟩ = some vt ∧ w.cell? ⟨b, o + 3, none⟩ = some vf ∧ FcCs S w i.face vt vf

theorem KnAt.keep {S S' : Nat → Prop} {w w' : World} (hk : Keeps S S' w w') {k : Kn} {b o : Nat} (hb : S b) (h : KnAt w k b o) : KnAt w' k b o := ⟨StrAt.keep hk hb h.1, StrAt.keep hk hb h.2⟩
theorem knSl_keep {S S' : Nat → Prop} {w w' : World} (hk : Keeps S S' w w') {l : List Kn} {v : Value} (h : SlAt S (KnAt w) 2 l v) : SlAt S' (KnAt w') 2 l v := h.imp hk.sub fun _ _ _ _ hb' h => KnAt.keep hk hb' h
theorem SgAt.keep {S S' : Nat → Prop} {w w' : World} (hk : Keeps S S' w w') {g : Sg} {b o : Nat} (hb : S b) (h : SgAt S w g b o) : SgAt S' w' g b o := by
  obtain ⟨h0, ⟨v, hv, hp⟩, h1⟩ := h
  exact ⟨StrAt.keep hk hb h0, ⟨v, by rwa [hk.cell hb], strSl_keep hk hp⟩, StrAt.keep hk hb h1⟩
theorem sgSl_keep {S S' : Nat → Prop} {w w' : World} (hk : Keeps S S' w w') {l : List Sg} {v : Value} (h : SlAt S (SgAt S w) 3 l v) : SlAt S' (SgAt S' w') 3 l v := h.imp hk.sub fun _ _ _ _ hb' h => SgAt.keep hk hb' h
theorem SgIs.keep {S S' : Nat → Prop} {w w' : World} (hk : Keeps S S' w w') {g : Sg} {v : Value} (h : SgIs S w g v) : SgIs S' w' g v := by
  obtain ⟨vp, rfl, h1, h2, h3⟩ := h
  exact ⟨vp, rfl, h1, h2, strSl_keep hk h3⟩
theorem FcCs.keep {S S' : Nat → Prop} {w w' : World} (hk : Keeps S S' w w') {f : Fc} {vt vf : Value} (h : FcCs S w f vt vf) : FcCs S' w' f vt vf := ⟨knSl_keep hk h.1, sgSl_keep hk h.2⟩
theorem FcIs.keep {S S' : Nat → Prop} {w w' : World} (hk : Keeps S S' w w') {f : Fc} {v : Value} (h : FcIs S w f v) : FcIs S' w' f v := by
  obtain ⟨vt, vf, rfl, h1⟩ := h
  exact ⟨vt, vf, rfl, h1.keep hk⟩
theorem ImAt.keep {S S' : Nat → Prop} {w w' : World} (hk : Keeps S S' w w') {i : Im} {b o : Nat} (hb : S b) (h : ImAt S w i b o) : ImAt S' w' i b o := by
  obtain ⟨h0, h1, vt, vf, h2, h3, h4⟩ := h
  exact ⟨StrAt.keep hk hb h0, by rwa [hk.cell hb], vt, vf, by rwa [hk.cell hb], by rwa [hk.cell hb], h4.keep hk⟩
theorem imSl_keep {S S' : Nat → Prop} {w w' : World} (hk : Keeps S S' w w') {l : List Im} {v : Value} (h : SlAt S (ImAt S w) 4 l v) : SlAt S' (ImAt S' w') 4 l v := h.imp hk.sub fun _ _ _ _ hb' h => ImAt.keep hk hb' h

/-! ### When two are the same. -/

def sEq (a b : ByteArray) : Bool := a.toList == b.toList
def eqL {α : Type} (p : α → α → Bool) : List α → List α → Bool
  | [], [] => true
  | x :: xs, y :: ys => p x y && eqL p xs ys
  | [], _ :: _ => false
  | _ :: _, [] => false
def knEq (a b : Kn) : Bool := sEq a.name b.name && sEq a.is b.is
def sgEq (a b : Sg) : Bool := sEq a.name b.name && (sEq a.result b.result && eqL sEq a.params b.params)
def fcEq (a b : Fc) : Bool := eqL knEq a.types b.types && eqL sgEq a.funcs b.funcs

theorem eqL_len {α : Type} {p : α → α → Bool} : ∀ {l m : List α}, l.length ≠ m.length → eqL p l m = false
  | [], [], h => absurd rfl h
  | x :: xs, y :: ys, h => by rw [eqL, eqL_len (l := xs) (m := ys) (fun e => h (by simp [e]))]; simp
  | [], _ :: _, _ => rfl
  | _ :: _, [], _ => rfl
theorem eqL_step {α : Type} {p : α → α → Bool} {l m : List α} {k : Nat} (hl : k < l.length) (hm : k < m.length) : eqL p (l.drop k) (m.drop k) = (p l[k] m[k] && eqL p (l.drop (k + 1)) (m.drop (k + 1))) := by
  rw [List.drop_eq_getElem_cons hl, List.drop_eq_getElem_cons hm, eqL]
theorem eqL_end {α : Type} {p : α → α → Bool} {l m : List α} {k : Nat} (hl : l.length ≤ k) (hm : m.length ≤ k) : eqL p (l.drop k) (m.drop k) = true := by
  rw [List.drop_eq_nil_of_le hl, List.drop_eq_nil_of_le hm, eqL]
theorem eqL_refl {α : Type} {p : α → α → Bool} (hp : ∀ x, p x x = true) : ∀ (l : List α), eqL p l l = true
  | [] => rfl
  | x :: xs => by rw [eqL, hp, eqL_refl hp xs]; rfl
theorem sEq_refl (a : ByteArray) : sEq a a = true := by simp [sEq]
theorem knEq_refl (a : Kn) : knEq a a = true := by simp [knEq, sEq_refl]
theorem sgEq_refl (a : Sg) : sgEq a a = true := by simp [sgEq, sEq_refl, eqL_refl sEq_refl]
theorem fcEq_refl (a : Fc) : fcEq a a = true := by simp [fcEq, eqL_refl knEq_refl, eqL_refl sgEq_refl]

theorem SlAt.len {α : Type} {S : Nat → Prop} {P : α → Nat → Nat → Prop} {c : Nat} {l : List α} {v : Value} (h : SlAt S P c l v) : l.length ≤ maxLen := by
  obtain ⟨_, _, _, h, _⟩ := h
  exact h.1
theorem SlAt.is {α : Type} {S : Nat → Prop} {P : α → Nat → Nat → Prop} {c : Nat} {l : List α} {v : Value} (h : SlAt S P c l v) : ∃ a cap, v = .slice a l.length cap := by
  obtain ⟨a, cap, rfl, _⟩ := h
  exact ⟨a, cap, rfl⟩
/-- the k-th of a list that has so many. -/
theorem SlAt.at {α : Type} {S : Nat → Prop} {P : α → Nat → Nat → Prop} {c : Nat} {l : List α} {a : Option Addr} {n cap : Nat} (h : SlAt S P c l (.slice a n cap)) {k : Nat} (hk : k < l.length) :
    n = l.length ∧ ∃ b o, a = some ⟨b, o, none⟩ ∧ S b ∧ P l[k] b (o + k * c) := by
  obtain ⟨a', cap', e, _, h⟩ := h
  injection e with e1 e2 e3
  subst e1 e2
  rcases h with h | ⟨b, o, rfl, hb, hr⟩
  · omega
  · exact ⟨rfl, b, o, rfl, hb, hr.get k hk⟩

end Go.Proofs.YtcpnfkeoajeodaaGreatDoor

/- A face, or a list of imports, that can be read as data lies in memory as a plain one; and none of its texts and lists is greater than what the form allows. -/
namespace Go.Proofs.YtcpnfkeoajeodaaGreatDoor
open Go.RowKit
set_option maxRecDepth 100000

theorem cellsKn : Tryz.prog.cellsOf 41 = 2 := by kernel_rfl
theorem cellsSg : Tryz.prog.cellsOf 44 = 3 := by kernel_rfl
theorem cellsFc : Tryz.prog.cellsOf 31 = 2 := by kernel_rfl
theorem cellsS : Tryz.prog.cellsOf 9 = 1 := by kernel_rfl
theorem cellsKns : Tryz.prog.cellsOf 28 = 1 := by kernel_rfl
theorem cellsSgs : Tryz.prog.cellsOf 29 = 1 := by kernel_rfl
theorem cellsStrs : Tryz.prog.cellsOf 22 = 1 := by kernel_rfl
theorem bytesKn : Tryz.prog.bytesOf 41 = 32 := by kernel_rfl
theorem bytesSg : Tryz.prog.bytesOf 44 = 56 := by kernel_rfl
theorem bytesS : Tryz.prog.bytesOf 9 = 16 := by kernel_rfl

def knSmall (k : Kn) : Prop := k.name.size ≤ reachBytes ∧ k.is.size ≤ reachBytes
def sgSmall (g : Sg) : Prop := g.name.size ≤ reachBytes ∧ g.result.size ≤ reachBytes ∧ g.params.length * 16 ≤ reachBytes ∧ ∀ p ∈ g.params, p.size ≤ reachBytes
def fcSmall (f : Fc) : Prop := (f.types.length * 32 ≤ reachBytes ∧ ∀ k ∈ f.types, knSmall k) ∧ f.funcs.length * 56 ≤ reachBytes ∧ ∀ g ∈ f.funcs, sgSmall g

/-- these cells lie there. -/
def LieAt (W : World) (cs : List Value) (b o : Nat) : Prop := b < W.heap.size ∧ ∀ j, j < cs.length → W.cell? ⟨b, o + j, none⟩ = cs[j]?

theorem weights_all {H : Type} {P : Program} {e : TypeId} : ∀ {l : List (DataW H)} {d : DataW H}, d ∈ l → ∀ n ∈ d.weights P e, n ∈ DataW.weightsAll P e l
  | [], _, h, _, _ => by cases h
  | x :: r, d, h, n, hn => by
    rw [DataW.weightsAll, List.mem_append]
    rcases List.mem_cons.1 h with rfl | h
    · exact .inl hn
    · exact .inr (weights_all h n hn)

theorem sl_readZ {α : Type} [Inhabited α] {H : Type} {enc : TypeId × Value → H} {W : World} {base : Nat} {spare : Nat → Bool} {held : Bool} {P : α → Nat → Nat → Prop} {Q : α → Prop} {c z : Nat} {t e : TypeId} (ht : Tryz.prog.underlying t = some (.slice e)) (hc : Tryz.prog.cellsOf e = c) (hz : Tryz.prog.bytesOf e = z) (h0 : 0 < c)
    {fuel : Nat} {cs : List Value} {x : DataW H × List MemPlace} (h : DataW.trod enc Tryz.prog W base spare held fuel t cs = some x) (hx : ∀ n ∈ x.1.weights Tryz.prog t, n ≤ reachBytes)
    (hel : ∀ (m : Nat) (cs' : List Value) (x' : DataW H × List MemPlace) (b o : Nat), DataW.trod enc Tryz.prog W base spare held m e cs' = some x' → (∀ n ∈ x'.1.weights Tryz.prog e, n ≤ reachBytes) → cs'.length = c → LieAt W cs' b o → ∃ y : α, P y b o ∧ Q y) :
    ∃ v l, cs = [v] ∧ SlAt (fun b => b < W.heap.size) P c l v ∧ l.length * z ≤ reachBytes ∧ ∀ y ∈ l, Q y := by
  rcases DataW.trod_slice ht h with ⟨hcs, _⟩ | ⟨a, len, cap, elems, rest, n, hfu, rfl, rfl, _, hlc, hcm, hlen, hels, _, _⟩
  · exact ⟨_, [], hcs, ⟨none, 0, rfl, ⟨by simp, by simp⟩, Or.inl rfl⟩, by simp, by simp⟩
  · by_cases hl0 : len = 0
    · subst hl0
      exact ⟨_, [], rfl, ⟨_, cap, rfl, ⟨by simp, by simp⟩, Or.inl rfl⟩, by simp, by simp⟩
    · have hw : (elems.length + rest.length) * z ≤ reachBytes := by
        have := hx ((elems.length + rest.length) * z) (by simp [DataW.weights, ht, hz])
        exact this
      have each : ∀ i, i < len → ∃ cs' x', W.cells? base (a.add (i * c)) c = some cs' ∧ DataW.trod enc Tryz.prog W base spare held n e cs' = some x' ∧ ∀ m ∈ x'.1.weights Tryz.prog e, m ≤ reachBytes := fun i hi => by
        have := hels i hi
        rw [hc, List.getElem?_eq_getElem (by omega)] at this
        obtain ⟨cs', h1, h2⟩ := Option.bind_eq_some_iff.1 this
        refine ⟨cs', _, h1, h2, fun m hm => hx m ?_⟩
        have hmem : (elems[i]'(by omega)).1 ∈ elems.map (·.1) := List.mem_map_of_mem (List.getElem_mem _)
        have := weights_all (P := Tryz.prog) (e := e) hmem m hm
        simp only [DataW.weights, ht]
        exact List.mem_cons_of_mem _ (List.mem_append_left _ this)
      obtain ⟨b, off, spot⟩ := a
      have hspot : spot = none := by
        obtain ⟨cs', x', h1, _⟩ := each 0 (by omega)
        obtain ⟨_, hl, hce⟩ := World.cells?_some h1
        have := hce 0 h0
        rw [List.getElem?_eq_getElem (by omega)] at this
        simpa [Addr.add] using World.cell?_spot this
      subst hspot
      have each2 : ∀ i, i < len → ∃ y : α, P y b (off + i * c) ∧ Q y := fun i hi => by
        obtain ⟨cs', x', h1, h2, h3⟩ := each i hi
        obtain ⟨_, hl, hce⟩ := World.cells?_some h1
        have cell : ∀ j, j < cs'.length → W.cell? ⟨b, off + i * c + j, none⟩ = cs'[j]? := fun j hj => by
          have := hce j (by omega)
          rw [Go.WideShapes.add_plain, Go.WideShapes.add_plain] at this
          exact this
        refine hel n cs' x' b (off + i * c) h2 h3 hl ⟨?_, cell⟩
        have := cell 0 (by omega)
        rw [List.getElem?_eq_getElem (by omega)] at this
        exact World.block_lt_of_cell? W _ this
      obtain ⟨q, hq⟩ := Deep.choose_lt each2
      have hb : b < W.heap.size := by
        obtain ⟨cs', x', h1, _⟩ := each 0 (by omega)
        obtain ⟨_, hl, hce⟩ := World.cells?_some h1
        have := hce 0 h0
        rw [List.getElem?_eq_getElem (by omega), Go.WideShapes.add_plain, Go.WideShapes.add_plain] at this
        exact World.block_lt_of_cell? W _ this
      refine ⟨_, (List.range len).map q, rfl, ⟨some ⟨b, off, none⟩, cap, by simp, ⟨by simp; omega, by simp; omega⟩, Or.inr ⟨b, off, rfl, hb, RowAt.mk fun i hi => ?_⟩⟩, ?_, ?_⟩
      · have hi' : i < len := by simpa using hi
        simpa using (hq i hi').1
      · rw [List.length_map, List.length_range, ← hlen]
        exact Nat.le_trans (Nat.mul_le_mul_right z (Nat.le_add_right _ _)) hw
      · intro y hy
        obtain ⟨i, hi, rfl⟩ := List.mem_map.1 hy
        exact (hq i (List.mem_range.1 hi)).2

theorem agg_each {H : Type} {P : Program} {t : TypeId} {fs : Array Field} (ht : P.underlying t = some (.struct fs)) {ys : List (DataW H × List MemPlace)} {pl : List MemPlace} (hx : ∀ n ∈ (DataW.agg (ys.map (·.1)), pl).1.weights P t, n ≤ reachBytes)
    {j : Nat} {u : TypeId} {y : DataW H × List MemPlace} (hu : (fs.toList.map (·.type))[j]? = some u) (hy : ys[j]? = some y) : ∀ n ∈ y.1.weights P u, n ≤ reachBytes := fun n hn => by
  refine hx n ?_
  simp only [DataW.weights, ht]
  exact DataW.weights_mem_each hu (by rw [List.getElem?_map, hy]; rfl) n hn

section
variable {H : Type} {enc : TypeId × Value → H} {W : World} {base : Nat} {spare : Nat → Bool} {held : Bool}

theorem str_readZ {m : Nat} {cs : List Value} {x : DataW H × List MemPlace} (h : DataW.trod enc Tryz.prog W base spare held m 9 cs = some x) (hx : ∀ n ∈ x.1.weights Tryz.prog 9, n ≤ reachBytes) : ∃ s, cs = [.string s] ∧ s.size ≤ maxLen ∧ s.size ≤ reachBytes := by
  obtain ⟨s, rfl, rfl, hs⟩ := DataW.trod_string Tryz.underlying9 h
  exact ⟨s, rfl, hs, by simpa using hx s.data.toList.length (by simp [DataW.weights])⟩

set_option maxRecDepth 100000 in
theorem kn_read (fuel : Nat) (cs : List Value) (x : DataW H × List MemPlace) (h : DataW.trod enc Tryz.prog W base spare held fuel 41 cs = some x) (hx : ∀ n ∈ x.1.weights Tryz.prog 41, n ≤ reachBytes) :
    ∃ k : Kn, cs = [.string k.name, .string k.is] ∧ k.name.size ≤ maxLen ∧ k.is.size ≤ maxLen ∧ knSmall k := by
  obtain ⟨ys, n, _, rfl, hlen, hyl0, hf⟩ := DataW.trod_struct Tryz.underlying41 h
  rw [cellsKn] at hlen
  match cs, hlen with
  | [v0, v1], _ =>
    have g0 : DataW.trod enc Tryz.prog W base spare held n 9 (([v0, v1].drop 0).take (Tryz.prog.cellsOf 9)) = ys[0]? := hf 0 _ rfl
    rw [cellsS] at g0
    have g1 : DataW.trod enc Tryz.prog W base spare held n 9 (([v0, v1].drop 1).take (Tryz.prog.cellsOf 9)) = ys[1]? := hf 1 _ rfl
    rw [cellsS] at g1
    have hyl : ys.length = 2 := hyl0
    obtain ⟨y0, e0⟩ : ∃ y, ys[0]? = some y := ⟨_, List.getElem?_eq_getElem (by omega)⟩
    obtain ⟨y1, e1⟩ : ∃ y, ys[1]? = some y := ⟨_, List.getElem?_eq_getElem (by omega)⟩
    obtain ⟨a, ha, has, haz⟩ := str_readZ (g0.trans e0) (agg_each Tryz.underlying41 hx rfl e0)
    obtain ⟨r, hr, hrs, hrz⟩ := str_readZ (g1.trans e1) (agg_each Tryz.underlying41 hx rfl e1)
    simp at ha hr
    subst ha hr
    exact ⟨⟨a, r⟩, rfl, has, hrs, haz, hrz⟩

set_option maxRecDepth 100000 in
theorem sg_read (fuel : Nat) (cs : List Value) (x : DataW H × List MemPlace) (h : DataW.trod enc Tryz.prog W base spare held fuel 44 cs = some x) (hx : ∀ n ∈ x.1.weights Tryz.prog 44, n ≤ reachBytes) :
    ∃ (g : Sg) (vp : Value), cs = [.string g.name, vp, .string g.result] ∧ g.name.size ≤ maxLen ∧ g.result.size ≤ maxLen ∧ SlAt (fun b => b < W.heap.size) (StrAt W) 1 g.params vp ∧ sgSmall g := by
  obtain ⟨ys, n, _, rfl, hlen, hyl0, hf⟩ := DataW.trod_struct Tryz.underlying44 h
  rw [cellsSg] at hlen
  match cs, hlen with
  | [v0, v1, v2], _ =>
    have g0 : DataW.trod enc Tryz.prog W base spare held n 9 (([v0, v1, v2].drop 0).take (Tryz.prog.cellsOf 9)) = ys[0]? := hf 0 _ rfl
    rw [cellsS] at g0
    have g1 : DataW.trod enc Tryz.prog W base spare held n 22 (([v0, v1, v2].drop 1).take (Tryz.prog.cellsOf 22)) = ys[1]? := hf 1 _ rfl
    rw [cellsStrs] at g1
    have g2 : DataW.trod enc Tryz.prog W base spare held n 9 (([v0, v1, v2].drop 2).take (Tryz.prog.cellsOf 9)) = ys[2]? := hf 2 _ rfl
    rw [cellsS] at g2
    have hyl : ys.length = 3 := hyl0
    obtain ⟨y0, e0⟩ : ∃ y, ys[0]? = some y := ⟨_, List.getElem?_eq_getElem (by omega)⟩
    obtain ⟨y1, e1⟩ : ∃ y, ys[1]? = some y := ⟨_, List.getElem?_eq_getElem (by omega)⟩
    obtain ⟨y2, e2⟩ : ∃ y, ys[2]? = some y := ⟨_, List.getElem?_eq_getElem (by omega)⟩
    obtain ⟨a, ha, has, haz⟩ := str_readZ (g0.trans e0) (agg_each Tryz.underlying44 hx rfl e0)
    obtain ⟨r, hr, hrs, hrz⟩ := str_readZ (g2.trans e2) (agg_each Tryz.underlying44 hx rfl e2)
    obtain ⟨vp, l, hvp, hsl, hlz, hle⟩ := sl_readZ (P := StrAt W) (Q := fun s => s.size ≤ reachBytes) Tryz.underlying22 cellsS bytesS (by omega) (g1.trans e1) (agg_each Tryz.underlying44 hx rfl e1) (fun m' cs' x' b o hx' hz' _ hl' => by
      obtain ⟨s, rfl, hs, hsz⟩ := str_readZ hx' hz'
      exact ⟨s, ⟨hl'.2 0 (by simp), hs⟩, hsz⟩)
    simp at ha hr hvp
    subst ha hr hvp
    exact ⟨⟨a, l, r⟩, v1, rfl, has, hrs, hsl, haz, hrz, hlz, hle⟩

set_option maxRecDepth 100000 in
theorem fc_read (fuel : Nat) (cs : List Value) (x : DataW H × List MemPlace) (h : DataW.trod enc Tryz.prog W base spare held fuel 31 cs = some x) (hx : ∀ n ∈ x.1.weights Tryz.prog 31, n ≤ reachBytes) :
    ∃ (f : Fc) (vt vf : Value), cs = [vt, vf] ∧ FcCs (fun b => b < W.heap.size) W f vt vf ∧ fcSmall f := by
  obtain ⟨ys, n, _, rfl, hlen, hyl0, hf⟩ := DataW.trod_struct Tryz.underlying31 h
  rw [cellsFc] at hlen
  match cs, hlen with
  | [v0, v1], _ =>
    have g0 : DataW.trod enc Tryz.prog W base spare held n 28 (([v0, v1].drop 0).take (Tryz.prog.cellsOf 28)) = ys[0]? := hf 0 _ rfl
    rw [cellsKns] at g0
    have g1 : DataW.trod enc Tryz.prog W base spare held n 29 (([v0, v1].drop 1).take (Tryz.prog.cellsOf 29)) = ys[1]? := hf 1 _ rfl
    rw [cellsSgs] at g1
    have hyl : ys.length = 2 := hyl0
    obtain ⟨y0, e0⟩ : ∃ y, ys[0]? = some y := ⟨_, List.getElem?_eq_getElem (by omega)⟩
    obtain ⟨y1, e1⟩ : ∃ y, ys[1]? = some y := ⟨_, List.getElem?_eq_getElem (by omega)⟩
    obtain ⟨vt, lt, hvt, hst, htz, hte⟩ := sl_readZ (P := KnAt W) (Q := knSmall) Tryz.underlying28 cellsKn bytesKn (by omega) (g0.trans e0) (agg_each Tryz.underlying31 hx rfl e0) (fun m' cs' x' b o hx' hz' _ hl' => by
      obtain ⟨k, rfl, h1, h2, h3⟩ := kn_read _ _ _ hx' hz'
      exact ⟨k, ⟨⟨hl'.2 0 (by simp), h1⟩, hl'.2 1 (by simp), h2⟩, h3⟩)
    obtain ⟨vf, lf, hvf, hsf, hfz, hfe⟩ := sl_readZ (P := SgAt (fun b => b < W.heap.size) W) (Q := sgSmall) Tryz.underlying29 cellsSg bytesSg (by omega) (g1.trans e1) (agg_each Tryz.underlying31 hx rfl e1) (fun m' cs' x' b o hx' hz' _ hl' => by
      obtain ⟨g, vp, rfl, h1, h2, h3, h4⟩ := sg_read _ _ _ hx' hz'
      exact ⟨g, ⟨⟨hl'.2 0 (by simp), h1⟩, ⟨vp, hl'.2 1 (by simp), h3⟩, hl'.2 2 (by simp), h2⟩, h4⟩)
    simp at hvt hvf
    subst hvt hvf
    exact ⟨⟨lt, lf⟩, v0, v1, rfl, ⟨hst, hsf⟩, ⟨htz, hte⟩, hfz, hfe⟩

theorem cellsIm : Tryz.prog.cellsOf 69 = 4 := by kernel_rfl
theorem cellsIms : Tryz.prog.cellsOf 27 = 1 := by kernel_rfl
theorem cellsB : Tryz.prog.cellsOf 4 = 1 := by kernel_rfl
theorem bytesIm : Tryz.prog.bytesOf 69 = 72 := by kernel_rfl

set_option maxRecDepth 100000 in
theorem im_readZ (fuel : Nat) (cs : List Value) (x : DataW H × List MemPlace) (h : DataW.trod enc Tryz.prog W base spare held fuel 69 cs = some x) (hx : ∀ n ∈ x.1.weights Tryz.prog 69, n ≤ reachBytes) :
    ∃ (i : Im) (vt vf : Value), cs = [.string i.name, .bool i.there, vt, vf] ∧ i.name.size ≤ maxLen ∧ FcCs (fun b => b < W.heap.size) W i.face vt vf ∧ fcSmall i.face := by
  obtain ⟨ys, n, _, rfl, hlen, hyl0, hf⟩ := DataW.trod_struct Tryz.underlying69 h
  rw [cellsIm] at hlen
  match cs, hlen with
  | [v0, v1, v2, v3], _ =>
    have g0 : DataW.trod enc Tryz.prog W base spare held n 9 (([v0, v1, v2, v3].drop 0).take (Tryz.prog.cellsOf 9)) = ys[0]? := hf 0 _ rfl
    rw [cellsS] at g0
    have g1 : DataW.trod enc Tryz.prog W base spare held n 4 (([v0, v1, v2, v3].drop 1).take (Tryz.prog.cellsOf 4)) = ys[1]? := hf 1 _ rfl
    rw [cellsB] at g1
    have g2 : DataW.trod enc Tryz.prog W base spare held n 31 (([v0, v1, v2, v3].drop 2).take (Tryz.prog.cellsOf 31)) = ys[2]? := hf 2 _ rfl
    rw [cellsFc] at g2
    have hyl : ys.length = 3 := hyl0
    obtain ⟨y0, e0⟩ : ∃ y, ys[0]? = some y := ⟨_, List.getElem?_eq_getElem (by omega)⟩
    obtain ⟨y1, e1⟩ : ∃ y, ys[1]? = some y := ⟨_, List.getElem?_eq_getElem (by omega)⟩
    obtain ⟨y2, e2⟩ : ∃ y, ys[2]? = some y := ⟨_, List.getElem?_eq_getElem (by omega)⟩
    obtain ⟨a, ha, has, _⟩ := str_readZ (g0.trans e0) (agg_each Tryz.underlying69 hx rfl e0)
    obtain ⟨b, hb, _⟩ := DataW.trod_bool Tryz.underlying4 (g1.trans e1)
    obtain ⟨f, vt, vf, hcs, hfc, hsm⟩ := fc_read n _ _ (g2.trans e2) (agg_each Tryz.underlying69 hx rfl e2)
    simp at ha hb hcs
    obtain ⟨rfl, rfl⟩ := hcs
    subst ha hb
    exact ⟨⟨a, b, f⟩, v2, v3, rfl, has, hfc, hsm⟩

theorem im_read (fuel : Nat) (cs : List Value) (x : DataW H × List MemPlace) (h : DataW.trod enc Tryz.prog W base spare held fuel 69 cs = some x) (hx : ∀ n ∈ x.1.weights Tryz.prog 69, n ≤ reachBytes) :
    ∃ (i : Im) (vt vf : Value), cs = [.string i.name, .bool i.there, vt, vf] ∧ i.name.size ≤ maxLen ∧ FcCs (fun b => b < W.heap.size) W i.face vt vf := by
  obtain ⟨i, vt, vf, h1, h2, h3, _⟩ := im_readZ fuel cs x h hx
  exact ⟨i, vt, vf, h1, h2, h3⟩

end
end Go.Proofs.YtcpnfkeoajeodaaGreatDoor

/- What slices.Equal answers at two lists of texts, and of types' names with what they are: whether they are the same, one by one. -/
namespace Go.Proofs.YtcpnfkeoajeodaaGreatDoor
open Go.RowKit
set_option maxRecDepth 100000

end Go.Proofs.YtcpnfkeoajeodaaGreatDoor

/- What face.sameFunc, slices.EqualFunc with it, and face.Same answer: whether two are the same, one by one. -/
namespace Go.Proofs.YtcpnfkeoajeodaaGreatDoor
open Go.RowKit
set_option maxRecDepth 100000

theorem sgIs_at {S : Nat → Prop} {w : World} {g : Sg} {b o : Nat} (h : SgAt S w g b o) : ∃ a n cap, w.cell? ⟨b, o, none⟩ = some (.string g.name) ∧ w.cell? ⟨b, o + 1, none⟩ = some (.slice a n cap) ∧ w.cell? ⟨b, o + 2, none⟩ = some (.string g.result) ∧ SgIs S w g (.agg #[.string g.name, .slice a n cap, .string g.result]) := by
  obtain ⟨⟨h0, z0⟩, ⟨v, hv, hp⟩, h1, z1⟩ := h
  obtain ⟨a, cap, rfl⟩ := hp.is
  exact ⟨a, _, cap, h0, hv, h1, _, rfl, z0, z1, hp⟩

end Go.Proofs.YtcpnfkeoajeodaaGreatDoor

/- What slices.IndexFunc answers at a list of types, or functions, with the closure that asks for a name: the place of the first that bears it, or -1. -/
namespace Go.Proofs.YtcpnfkeoajeodaaGreatDoor
open Go.RowKit
set_option maxRecDepth 100000

/-- the place of the first such one; behind all, where there is none. -/
def findAt {α : Type} (p : α → Bool) : List α → Nat
  | [] => 0
  | x :: r => if p x = true then 0 else findAt p r + 1

theorem find_yes {α : Type} {p : α → Bool} {l : List α} {k : Nat} (hk : k < l.length) (h : p l[k] = true) : findAt p (l.drop k) = 0 := by
  rw [List.drop_eq_getElem_cons hk, findAt, if_pos h]
theorem find_no {α : Type} {p : α → Bool} {l : List α} {k : Nat} (hk : k < l.length) (h : p l[k] = false) : findAt p (l.drop k) = findAt p (l.drop (k + 1)) + 1 := by
  rw [List.drop_eq_getElem_cons hk, findAt, if_neg (by rw [h]; simp)]
theorem find_end {α : Type} {p : α → Bool} {l : List α} {k : Nat} (hk : l.length ≤ k) : findAt p (l.drop k) = 0 := by
  rw [List.drop_eq_nil_of_le hk, findAt]

def idxOf {α : Type} (p : α → Bool) (l : List α) : Int := if findAt p l < l.length then (findAt p l : Int) else -1

theorem typeIs_any (B : Nat) (x y s : ByteArray) (w : World) (hp : w.cell? ⟨B, 0, none⟩ = some (.string s)) :
    Calls Tryz.prog 102 #[.agg #[.string x, .string y], .pointer (some ⟨B, 0, none⟩)] w fun e w' => e = .returned (.bool (sEq x s)) ∧ Below w.heap.size w w' := by
  have hlt : B < w.heap.size := World.block_lt_of_cell? _ _ hp
  have HE : Hid (sEq x s = (x.toList == s.toList)) := rfl
  go_enter Tryz.func102, Tryz.ntmps102
  go_wp2
  go_ret
  exact ⟨by rw [HE.out]; rfl, (Below.refl _ _).alloc (Nat.le_refl _) _⟩

theorem funcIs_any (B : Nat) (x y s : ByteArray) (a : Option Addr) (n cap : Nat) (w : World) (hp : w.cell? ⟨B, 0, none⟩ = some (.string s)) :
    Calls Tryz.prog 55 #[.agg #[.string x, .slice a n cap, .string y], .pointer (some ⟨B, 0, none⟩)] w fun e w' => e = .returned (.bool (sEq x s)) ∧ Below w.heap.size w w' := by
  have hlt : B < w.heap.size := World.block_lt_of_cell? _ _ hp
  have HE : Hid (sEq x s = (x.toList == s.toList)) := rfl
  go_enter Tryz.func55, Tryz.ntmps55
  go_wp2
  go_ret
  exact ⟨by rw [HE.out]; rfl, (Below.refl _ _).alloc (Nat.le_refl _) _⟩

set_option maxHeartbeats 2000000 in
theorem index_kn (S : Nat → Prop) (l : List Kn) (s : ByteArray) (B : Nat) (v : Value) (w : World) (hS : ∀ b, S b → b < w.heap.size) (hv : SlAt S (KnAt w) 2 l v) (hp : w.cell? ⟨B, 0, none⟩ = some (.string s)) :
    Calls Tryz.prog 101 #[v, .func (.func 102) #[] #[.pointer (some ⟨B, 0, none⟩)]] w fun e w' => e = .returned (.int .i64 (idxOf (fun k : Kn => sEq k.name s) l)) ∧ Below w.heap.size w w' := by
  have HV := veil hv
  have hlen := hv.len
  unfold maxLen at hlen
  obtain ⟨a, cap, rfl⟩ := hv.is
  have HP := veil hp
  have HBl := veil (World.block_lt_of_cell? _ _ hp)
  clear hv hp
  go_enter Tryz.func101, Tryz.ntmps101
  go_wp2_with fail
  go_loopw [8] (fun i wr => ∃ j : Nat, j ≤ l.length ∧ i = .int .i64 j ∧ findAt (fun k : Kn => sEq k.name s) l = j + findAt (fun k : Kn => sEq k.name s) (l.drop j) ∧ Below w.heap.size w wr) (fun i _ => l.length - (intOf i).toNat)
  case atStart => exact ⟨0, Nat.zero_le _, rfl, (Nat.zero_add _).symm, Below.refl _ _⟩
  case round =>
    obtain ⟨j, hj, rfl, hq, hbl⟩ := hrel
    have HQ := veil hq
    have HBW := veil hbl
    clear hq
    by_cases hlt : j < l.length
    · have hlt' : (j : Int) < (l.length : Int) := by omega
      obtain ⟨_, b, off, rfl, hb, ⟨a0, m0⟩, a1, m1⟩ := HV.out.at hlt
      have hbk := hS b hb
      have d0 := (hbl.cell (p := ⟨b, off + j * 2, none⟩) hbk).trans a0
      have d1 := (hbl.cell (p := ⟨b, off + j * 2 + 1, none⟩) hbk).trans a1
      have HC : Hid (Calls Tryz.prog 102 #[.agg #[.string l[j].name, .string l[j].is], .pointer (some ⟨B, 0, none⟩)] wr fun e w' => e = .returned (.bool (sEq l[j].name s)) ∧ Below wr.heap.size wr w') := typeIs_any B _ _ s wr ((hbl.cell HBl.out).trans HP.out)
      have HYes : Hid (sEq l[j].name s = true → findAt (fun k : Kn => sEq k.name s) l = j) := fun h => by
        rw [HQ.out, find_yes hlt h]; rfl
      have HNo : Hid (sEq l[j].name s = false → findAt (fun k : Kn => sEq k.name s) l = (j + 1) + findAt (fun k : Kn => sEq k.name s) (l.drop (j + 1))) := fun h => by
        rw [HQ.out, find_no hlt h]; omega
      clear a0 a1 m0 m1 HV hbl HQ
      generalize l[j].name = x at *
      generalize l[j].is = y at *
      cases hx : sEq x s with
      | true =>
        rw [hx] at HC
        have HI : Hid (idxOf (fun k : Kn => sEq k.name s) l = (j : Int)) := by
          show _ = _
          unfold idxOf
          rw [HYes.out hx, if_pos hlt]
        clear HYes HNo hx
        go_wp2_with fail
        refine HC.out.mono ?_
        rintro e w1 ⟨rfl, hb1⟩
        have HB1 := veil (HBW.out.trans (hb1.mono HBW.out.size))
        clear hb1
        go_wp2_with fail
        go_ret
        exact ⟨by rw [HI.out]; rfl, HB1.out⟩
      | false =>
        rw [hx] at HC
        have HN := veil (HNo.out hx)
        clear HYes HNo hx
        go_wp2_with fail
        refine HC.out.mono ?_
        rintro e w1 ⟨rfl, hb1⟩
        have HB1 := veil (HBW.out.trans (hb1.mono HBW.out.size))
        clear hb1
        go_wp2_with fail
        exact ⟨⟨j + 1, by omega, by go_num, HN.out, HB1.out⟩, by simp [intOf]; omega⟩
    · have hnl : ¬ (j : Int) < (l.length : Int) := by omega
      have HI : Hid (idxOf (fun k : Kn => sEq k.name s) l = -1) := by
        show _ = _
        unfold idxOf
        rw [HQ.out, find_end (by omega), if_neg (by omega)]
      clear HV hbl HQ
      go_wp2_with fail
      go_ret
      exact ⟨by rw [HI.out]; rfl, HBW.out⟩

set_option maxHeartbeats 2000000 in
theorem index_sg (S : Nat → Prop) (l : List Sg) (s : ByteArray) (B : Nat) (v : Value) (w : World) (hS : ∀ b, S b → b < w.heap.size) (hv : SlAt S (SgAt S w) 3 l v) (hp : w.cell? ⟨B, 0, none⟩ = some (.string s)) :
    Calls Tryz.prog 54 #[v, .func (.func 55) #[] #[.pointer (some ⟨B, 0, none⟩)]] w fun e w' => e = .returned (.int .i64 (idxOf (fun k : Sg => sEq k.name s) l)) ∧ Below w.heap.size w w' := by
  have HV := veil hv
  have hlen := hv.len
  unfold maxLen at hlen
  obtain ⟨a, cap, rfl⟩ := hv.is
  have HP := veil hp
  have HBl := veil (World.block_lt_of_cell? _ _ hp)
  clear hv hp
  go_enter Tryz.func54, Tryz.ntmps54
  go_wp2_with fail
  go_loopw [8] (fun i wr => ∃ j : Nat, j ≤ l.length ∧ i = .int .i64 j ∧ findAt (fun k : Sg => sEq k.name s) l = j + findAt (fun k : Sg => sEq k.name s) (l.drop j) ∧ Below w.heap.size w wr) (fun i _ => l.length - (intOf i).toNat)
  case atStart => exact ⟨0, Nat.zero_le _, rfl, (Nat.zero_add _).symm, Below.refl _ _⟩
  case round =>
    obtain ⟨j, hj, rfl, hq, hbl⟩ := hrel
    have HQ := veil hq
    have HBW := veil hbl
    clear hq
    by_cases hlt : j < l.length
    · have hlt' : (j : Int) < (l.length : Int) := by omega
      obtain ⟨_, b, off, rfl, hb, hat⟩ := HV.out.at hlt
      have hbk := hS b hb
      obtain ⟨p1, p2, p3, a0, a1, a2, _⟩ := sgIs_at hat
      have d0 := (hbl.cell (p := ⟨b, off + j * 3, none⟩) hbk).trans a0
      have d1 := (hbl.cell (p := ⟨b, off + j * 3 + 1, none⟩) hbk).trans a1
      have d2 := (hbl.cell (p := ⟨b, off + j * 3 + 2, none⟩) hbk).trans a2
      have HC : Hid (Calls Tryz.prog 55 #[.agg #[.string l[j].name, .slice p1 p2 p3, .string l[j].result], .pointer (some ⟨B, 0, none⟩)] wr fun e w' => e = .returned (.bool (sEq l[j].name s)) ∧ Below wr.heap.size wr w') := funcIs_any B _ _ s _ _ _ wr ((hbl.cell HBl.out).trans HP.out)
      have HYes : Hid (sEq l[j].name s = true → findAt (fun k : Sg => sEq k.name s) l = j) := fun h => by
        rw [HQ.out, find_yes hlt h]; rfl
      have HNo : Hid (sEq l[j].name s = false → findAt (fun k : Sg => sEq k.name s) l = (j + 1) + findAt (fun k : Sg => sEq k.name s) (l.drop (j + 1))) := fun h => by
        rw [HQ.out, find_no hlt h]; omega
      clear a0 a1 a2 hat HV hbl HQ
      generalize l[j].name = x at *
      generalize l[j].result = y at *
      cases hx : sEq x s with
      | true =>
        rw [hx] at HC
        have HI : Hid (idxOf (fun k : Sg => sEq k.name s) l = (j : Int)) := by
          show _ = _
          unfold idxOf
          rw [HYes.out hx, if_pos hlt]
        clear HYes HNo hx
        go_wp2_with fail
        refine HC.out.mono ?_
        rintro e w1 ⟨rfl, hb1⟩
        have HB1 := veil (HBW.out.trans (hb1.mono HBW.out.size))
        clear hb1
        go_wp2_with fail
        go_ret
        exact ⟨by rw [HI.out]; rfl, HB1.out⟩
      | false =>
        rw [hx] at HC
        have HN := veil (HNo.out hx)
        clear HYes HNo hx
        go_wp2_with fail
        refine HC.out.mono ?_
        rintro e w1 ⟨rfl, hb1⟩
        have HB1 := veil (HBW.out.trans (hb1.mono HBW.out.size))
        clear hb1
        go_wp2_with fail
        exact ⟨⟨j + 1, by omega, by go_num, HN.out, HB1.out⟩, by simp [intOf]; omega⟩
    · have hnl : ¬ (j : Int) < (l.length : Int) := by omega
      have HI : Hid (idxOf (fun k : Sg => sEq k.name s) l = -1) := by
        show _ = _
        unfold idxOf
        rw [HQ.out, find_end (by omega), if_neg (by omega)]
      clear HV hbl HQ
      go_wp2_with fail
      go_ret
      exact ⟨by rw [HI.out]; rfl, HBW.out⟩

end Go.Proofs.YtcpnfkeoajeodaaGreatDoor
