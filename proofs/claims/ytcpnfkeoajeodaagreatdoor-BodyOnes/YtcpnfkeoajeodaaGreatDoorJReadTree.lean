/- A module (a field, a type, an expression) that can be read as data lies in memory as a plain tree. -/
import Derived.Test.YtcpnfkeoajeodaaGreatDoorJA
import Derived.Test.YtcpnfkeoajeodaaGreatDoorJFa
import Derived.Deep.Slices
import Derived.ProofKit
namespace Go.Proofs.YtcpnfkeoajeodaaGreatDoor
open Go.RowKit
set_option maxRecDepth 100000

theorem cellsTy : Tryz.prog.cellsOf 49 = 4 := by kernel_rfl
theorem cellsEx : Tryz.prog.cellsOf 52 = 5 := by kernel_rfl
theorem cellsFd : Tryz.prog.cellsOf 64 = 5 := by kernel_rfl
theorem cellsFu : Tryz.prog.cellsOf 54 = 12 := by kernel_rfl
theorem cellsMo : Tryz.prog.cellsOf 26 = 3 := by kernel_rfl
theorem cellsI : Tryz.prog.cellsOf 3 = 1 := by kernel_rfl
theorem cellsTys : Tryz.prog.cellsOf 47 = 1 := by kernel_rfl
theorem cellsExs : Tryz.prog.cellsOf 50 = 1 := by kernel_rfl
theorem cellsFds : Tryz.prog.cellsOf 23 = 1 := by kernel_rfl
theorem cellsFus : Tryz.prog.cellsOf 24 = 1 := by kernel_rfl

theorem sl_read {α : Type} [Inhabited α] {H : Type} {enc : TypeId × Value → H} {W : World} {base : Nat} {spare : Nat → Bool} {held : Bool} {P : α → Nat → Nat → Prop} {c : Nat} {t e : TypeId} (ht : Tryz.prog.underlying t = some (.slice e)) (hc : Tryz.prog.cellsOf e = c) (h0 : 0 < c)
    {fuel : Nat} {cs : List Value} {x : DataW H × List MemPlace} (h : DataW.trod enc Tryz.prog W base spare held fuel t cs = some x)
    (hel : ∀ (m : Nat) (cs' : List Value) (x' : DataW H × List MemPlace) (b o : Nat), m < fuel → DataW.trod enc Tryz.prog W base spare held m e cs' = some x' → cs'.length = c → LieAt W cs' b o → ∃ y : α, P y b o) :
    ∃ v l, cs = [v] ∧ SlAt (fun b => b < W.heap.size) P c l v := by
  rcases DataW.trod_slice ht h with ⟨hcs, _⟩ | ⟨a, len, cap, elems, rest, n, hfu, rfl, _, _, hlc, hcm, hlen, hels, _, _⟩
  · exact ⟨_, [], hcs, none, 0, rfl, ⟨by simp, by simp⟩, Or.inl rfl⟩
  · by_cases hl0 : len = 0
    · subst hl0
      exact ⟨_, [], rfl, _, cap, rfl, ⟨by simp, by simp⟩, Or.inl rfl⟩
    · have each : ∀ i, i < len → ∃ cs' x', W.cells? base (a.add (i * c)) c = some cs' ∧ DataW.trod enc Tryz.prog W base spare held n e cs' = some x' := fun i hi => by
        have := hels i hi
        rw [hc, List.getElem?_eq_getElem (by omega)] at this
        obtain ⟨cs', h1, h2⟩ := Option.bind_eq_some_iff.1 this
        exact ⟨cs', _, h1, h2⟩
      obtain ⟨b, off, spot⟩ := a
      have hspot : spot = none := by
        obtain ⟨cs', x', h1, _⟩ := each 0 (by omega)
        obtain ⟨_, hl, hce⟩ := World.cells?_some h1
        have := hce 0 h0
        rw [List.getElem?_eq_getElem (by omega)] at this
        simpa [Addr.add] using World.cell?_spot this
      subst hspot
      have each2 : ∀ i, i < len → ∃ y : α, P y b (off + i * c) := fun i hi => by
        obtain ⟨cs', x', h1, h2⟩ := each i hi
        obtain ⟨_, hl, hce⟩ := World.cells?_some h1
        have cell : ∀ j, j < cs'.length → W.cell? ⟨b, off + i * c + j, none⟩ = cs'[j]? := fun j hj => by
          have := hce j (by omega)
          rw [Go.WideShapes.add_plain, Go.WideShapes.add_plain] at this
          exact this
        refine hel n cs' x' b (off + i * c) (by omega) h2 hl ⟨?_, cell⟩
        have := cell 0 (by omega)
        rw [List.getElem?_eq_getElem (by omega)] at this
        exact World.block_lt_of_cell? W _ this
      obtain ⟨q, hq⟩ := Deep.choose_lt each2
      have hb : b < W.heap.size := by
        obtain ⟨cs', x', h1, _⟩ := each 0 (by omega)
        obtain ⟨_, hl, hce⟩ := World.cells?_some h1
        have := hce 0 h0
        rw [List.getElem?_eq_getElem (by omega), Go.WideShapes.add_plain, Go.WideShapes.add_plain] at this
        exact World.block_lt_of_cell? W _ this
      refine ⟨_, (List.range len).map q, rfl, some ⟨b, off, none⟩, cap, by simp, ⟨by simp; omega, by simp; omega⟩, Or.inr ⟨b, off, rfl, hb, RowAt.mk fun i hi => ?_⟩⟩
      have hi' : i < len := by simpa using hi
      simpa using hq i hi'

instance : Inhabited Ty := ⟨.mk 0 .empty .empty []⟩
instance : Inhabited Ex := ⟨.mk 0 0 .empty .empty []⟩
instance : Inhabited Fd := ⟨⟨.empty, default⟩⟩
instance : Inhabited Fu := ⟨⟨.empty, .empty, [], default, default⟩⟩

section
variable {H : Type} {enc : TypeId × Value → H} {W : World} {base : Nat} {spare : Nat → Bool} {held : Bool}

set_option maxRecDepth 100000 in
theorem ty_read : ∀ (fuel : Nat) (cs : List Value) (x : DataW H × List MemPlace), DataW.trod enc Tryz.prog W base spare held fuel 49 cs = some x → ∃ k f n va t, cs = [.int .i64 k, .string f, .string n, va] ∧ TyCs (fun b => b < W.heap.size) W t k f n va := by
  intro fuel
  induction fuel using Nat.strongRecOn with
  | ind fuel ih =>
    intro cs x h
    obtain ⟨ys, n, hfu, _, hlen, hyl0, hf⟩ := DataW.trod_struct Tryz.underlying49 h
    rw [cellsTy] at hlen
    match cs, hlen with
    | [v0, v1, v2, v3], _ =>
      have g0 : DataW.trod enc Tryz.prog W base spare held n 3 (([v0, v1, v2, v3].drop 0).take (Tryz.prog.cellsOf 3)) = ys[0]? := hf 0 _ rfl
      rw [cellsI] at g0
      have g1 : DataW.trod enc Tryz.prog W base spare held n 9 (([v0, v1, v2, v3].drop 1).take (Tryz.prog.cellsOf 9)) = ys[1]? := hf 1 _ rfl
      rw [cellsS] at g1
      have g2 : DataW.trod enc Tryz.prog W base spare held n 9 (([v0, v1, v2, v3].drop 2).take (Tryz.prog.cellsOf 9)) = ys[2]? := hf 2 _ rfl
      rw [cellsS] at g2
      have g3 : DataW.trod enc Tryz.prog W base spare held n 47 (([v0, v1, v2, v3].drop 3).take (Tryz.prog.cellsOf 47)) = ys[3]? := hf 3 _ rfl
      rw [cellsTys] at g3
      have hyl : ys.length = 4 := hyl0
      obtain ⟨y0, e0⟩ : ∃ y, ys[0]? = some y := ⟨_, List.getElem?_eq_getElem (by omega)⟩
      obtain ⟨y1, e1⟩ : ∃ y, ys[1]? = some y := ⟨_, List.getElem?_eq_getElem (by omega)⟩
      obtain ⟨y2, e2⟩ : ∃ y, ys[2]? = some y := ⟨_, List.getElem?_eq_getElem (by omega)⟩
      obtain ⟨y3, e3⟩ : ∃ y, ys[3]? = some y := ⟨_, List.getElem?_eq_getElem (by omega)⟩
      obtain ⟨k, hk, _, _⟩ := DataW.trod_int Tryz.underlying3 (g0.trans e0)
      obtain ⟨f, hf', _, hfs⟩ := DataW.trod_string Tryz.underlying9 (g1.trans e1)
      obtain ⟨m, hm, _, hms⟩ := DataW.trod_string Tryz.underlying9 (g2.trans e2)
      obtain ⟨va, l, hva, hsl⟩ := sl_read (P := TyAt (fun b => b < W.heap.size) W) Tryz.underlying47 cellsTy (by omega) (g3.trans e3) (fun m' cs' x' b o hm' hx' _ hl' => by
        obtain ⟨k', f', n', va', t', rfl, hcs'⟩ := ih m' (by omega) cs' x' hx'
        exact ⟨t', tyAt_cells.2 ⟨k', f', n', va', hl'.2 0 (by simp), hl'.2 1 (by simp), hl'.2 2 (by simp), hl'.2 3 (by simp), hcs'⟩⟩)
      simp at hk hf' hm hva
      subst hk hf' hm hva
      exact ⟨k, f, m, v3, .mk k f m l, rfl, l, rfl, hfs, hms, hsl⟩

set_option maxRecDepth 100000 in
theorem ex_read : ∀ (fuel : Nat) (cs : List Value) (x : DataW H × List MemPlace), DataW.trod enc Tryz.prog W base spare held fuel 52 cs = some x → ∃ k n f s va t, cs = [.int .i64 k, .int .i64 n, .string f, .string s, va] ∧ ExCs (fun b => b < W.heap.size) W t k n f s va := by
  intro fuel
  induction fuel using Nat.strongRecOn with
  | ind fuel ih =>
    intro cs x h
    obtain ⟨ys, n, hfu, _, hlen, hyl0, hf⟩ := DataW.trod_struct Tryz.underlying52 h
    rw [cellsEx] at hlen
    match cs, hlen with
    | [v0, v1, v2, v3, v4], _ =>
      have g0 : DataW.trod enc Tryz.prog W base spare held n 3 (([v0, v1, v2, v3, v4].drop 0).take (Tryz.prog.cellsOf 3)) = ys[0]? := hf 0 _ rfl
      rw [cellsI] at g0
      have g1 : DataW.trod enc Tryz.prog W base spare held n 3 (([v0, v1, v2, v3, v4].drop 1).take (Tryz.prog.cellsOf 3)) = ys[1]? := hf 1 _ rfl
      rw [cellsI] at g1
      have g2 : DataW.trod enc Tryz.prog W base spare held n 9 (([v0, v1, v2, v3, v4].drop 2).take (Tryz.prog.cellsOf 9)) = ys[2]? := hf 2 _ rfl
      rw [cellsS] at g2
      have g3 : DataW.trod enc Tryz.prog W base spare held n 9 (([v0, v1, v2, v3, v4].drop 3).take (Tryz.prog.cellsOf 9)) = ys[3]? := hf 3 _ rfl
      rw [cellsS] at g3
      have g4 : DataW.trod enc Tryz.prog W base spare held n 50 (([v0, v1, v2, v3, v4].drop 4).take (Tryz.prog.cellsOf 50)) = ys[4]? := hf 4 _ rfl
      rw [cellsExs] at g4
      have hyl : ys.length = 5 := hyl0
      obtain ⟨y0, e0⟩ : ∃ y, ys[0]? = some y := ⟨_, List.getElem?_eq_getElem (by omega)⟩
      obtain ⟨y1, e1⟩ : ∃ y, ys[1]? = some y := ⟨_, List.getElem?_eq_getElem (by omega)⟩
      obtain ⟨y2, e2⟩ : ∃ y, ys[2]? = some y := ⟨_, List.getElem?_eq_getElem (by omega)⟩
      obtain ⟨y3, e3⟩ : ∃ y, ys[3]? = some y := ⟨_, List.getElem?_eq_getElem (by omega)⟩
      obtain ⟨y4, e4⟩ : ∃ y, ys[4]? = some y := ⟨_, List.getElem?_eq_getElem (by omega)⟩
      obtain ⟨k, hk, _, _⟩ := DataW.trod_int Tryz.underlying3 (g0.trans e0)
      obtain ⟨p, hp, _, _⟩ := DataW.trod_int Tryz.underlying3 (g1.trans e1)
      obtain ⟨f, hf', _, hfs⟩ := DataW.trod_string Tryz.underlying9 (g2.trans e2)
      obtain ⟨m, hm, _, hms⟩ := DataW.trod_string Tryz.underlying9 (g3.trans e3)
      obtain ⟨va, l, hva, hsl⟩ := sl_read (P := ExAt (fun b => b < W.heap.size) W) Tryz.underlying50 cellsEx (by omega) (g4.trans e4) (fun m' cs' x' b o hm' hx' _ hl' => by
        obtain ⟨k', p', f', n', va', t', rfl, hcs'⟩ := ih m' (by omega) cs' x' hx'
        exact ⟨t', exAt_cells.2 ⟨k', p', f', n', va', hl'.2 0 (by simp), hl'.2 1 (by simp), hl'.2 2 (by simp), hl'.2 3 (by simp), hl'.2 4 (by simp), hcs'⟩⟩)
      simp at hk hp hf' hm hva
      subst hk hp hf' hm hva
      exact ⟨k, p, f, m, v4, .mk k p f m l, rfl, l, rfl, hfs, hms, hsl⟩

set_option maxRecDepth 100000 in
theorem fd_read : ∀ (fuel : Nat) (cs : List Value) (x : DataW H × List MemPlace), DataW.trod enc Tryz.prog W base spare held fuel 64 cs = some x → ∃ s k f n va t, cs = [.string s, .int .i64 k, .string f, .string n, va] ∧ s.size ≤ maxLen ∧ TyCs (fun b => b < W.heap.size) W t k f n va := by
  intro fuel
  intro cs x h
  obtain ⟨ys, n, _, _, hlen, hyl0, hf⟩ := DataW.trod_struct Tryz.underlying64 h
  rw [cellsFd] at hlen
  match cs, hlen with
  | [v0, v1, v2, v3, v4], _ =>
      have g0 : DataW.trod enc Tryz.prog W base spare held n 9 (([v0, v1, v2, v3, v4].drop 0).take (Tryz.prog.cellsOf 9)) = ys[0]? := hf 0 _ rfl
      rw [cellsS] at g0
      have g1 : DataW.trod enc Tryz.prog W base spare held n 49 (([v0, v1, v2, v3, v4].drop 1).take (Tryz.prog.cellsOf 49)) = ys[1]? := hf 1 _ rfl
      rw [cellsTy] at g1
      have hyl : ys.length = 2 := hyl0
      obtain ⟨y0, e0⟩ : ∃ y, ys[0]? = some y := ⟨_, List.getElem?_eq_getElem (by omega)⟩
      obtain ⟨y1, e1⟩ : ∃ y, ys[1]? = some y := ⟨_, List.getElem?_eq_getElem (by omega)⟩
      obtain ⟨f, hf', _, hfs⟩ := DataW.trod_string Tryz.underlying9 (g0.trans e0)
      obtain ⟨k, f', m, va, t, ht, hcs⟩ := ty_read n _ _ (g1.trans e1)
      simp at hf' ht
      obtain ⟨rfl, rfl, rfl, rfl⟩ := ht
      subst hf'
      exact ⟨f, k, f', m, v4, t, rfl, hfs, hcs⟩

set_option maxRecDepth 100000 in
theorem fu_read : ∀ (fuel : Nat) (cs : List Value) (x : DataW H × List MemPlace), DataW.trod enc Tryz.prog W base spare held fuel 54 cs = some x → ∃ s r vp ps k f n va t k' n' f' s' va' x', cs = [.string s, .string r, vp, .int .i64 k, .string f, .string n, va, .int .i64 k', .int .i64 n', .string f', .string s', va'] ∧ s.size ≤ maxLen ∧ r.size ≤ maxLen ∧ SlAt (fun b => b < W.heap.size) (FdAt (fun b => b < W.heap.size) W) 5 ps vp ∧ TyCs (fun b => b < W.heap.size) W t k f n va ∧ ExCs (fun b => b < W.heap.size) W x' k' n' f' s' va' := by
  intro fuel
  intro cs x h
  obtain ⟨ys, n, _, _, hlen, hyl0, hf⟩ := DataW.trod_struct Tryz.underlying54 h
  rw [cellsFu] at hlen
  match cs, hlen with
  | [v0, v1, v2, v3, v4, v5, v6, v7, v8, v9, v10, v11], _ =>
      have g0 : DataW.trod enc Tryz.prog W base spare held n 9 (([v0, v1, v2, v3, v4, v5, v6, v7, v8, v9, v10, v11].drop 0).take (Tryz.prog.cellsOf 9)) = ys[0]? := hf 0 _ rfl
      rw [cellsS] at g0
      have g1 : DataW.trod enc Tryz.prog W base spare held n 9 (([v0, v1, v2, v3, v4, v5, v6, v7, v8, v9, v10, v11].drop 1).take (Tryz.prog.cellsOf 9)) = ys[1]? := hf 1 _ rfl
      rw [cellsS] at g1
      have g2 : DataW.trod enc Tryz.prog W base spare held n 23 (([v0, v1, v2, v3, v4, v5, v6, v7, v8, v9, v10, v11].drop 2).take (Tryz.prog.cellsOf 23)) = ys[2]? := hf 2 _ rfl
      rw [cellsFds] at g2
      have g3 : DataW.trod enc Tryz.prog W base spare held n 49 (([v0, v1, v2, v3, v4, v5, v6, v7, v8, v9, v10, v11].drop 3).take (Tryz.prog.cellsOf 49)) = ys[3]? := hf 3 _ rfl
      rw [cellsTy] at g3
      have g4 : DataW.trod enc Tryz.prog W base spare held n 52 (([v0, v1, v2, v3, v4, v5, v6, v7, v8, v9, v10, v11].drop 7).take (Tryz.prog.cellsOf 52)) = ys[4]? := hf 4 _ rfl
      rw [cellsEx] at g4
      have hyl : ys.length = 5 := hyl0
      obtain ⟨y0, e0⟩ : ∃ y, ys[0]? = some y := ⟨_, List.getElem?_eq_getElem (by omega)⟩
      obtain ⟨y1, e1⟩ : ∃ y, ys[1]? = some y := ⟨_, List.getElem?_eq_getElem (by omega)⟩
      obtain ⟨y2, e2⟩ : ∃ y, ys[2]? = some y := ⟨_, List.getElem?_eq_getElem (by omega)⟩
      obtain ⟨y3, e3⟩ : ∃ y, ys[3]? = some y := ⟨_, List.getElem?_eq_getElem (by omega)⟩
      obtain ⟨y4, e4⟩ : ∃ y, ys[4]? = some y := ⟨_, List.getElem?_eq_getElem (by omega)⟩
      obtain ⟨a, ha, _, has⟩ := DataW.trod_string Tryz.underlying9 (g0.trans e0)
      obtain ⟨r, hr, _, hrs⟩ := DataW.trod_string Tryz.underlying9 (g1.trans e1)
      obtain ⟨vp, l, hvp, hsl⟩ := sl_read (P := FdAt (fun b => b < W.heap.size) W) Tryz.underlying23 cellsFd (by omega) (g2.trans e2) (fun m' cs' x' b o hm' hx' _ hl' => by
        obtain ⟨s', k', f', n', va', t', rfl, hsz', hcs'⟩ := fd_read m' cs' x' hx'
        refine ⟨⟨s', t'⟩, ⟨hl'.2 0 (by simp), hsz'⟩, tyAt_cells.2 ⟨k', f', n', va', hl'.2 1 (by simp), ?_, ?_, ?_, hcs'⟩⟩
        · rw [Nat.add_assoc]; exact hl'.2 2 (by simp)
        · rw [Nat.add_assoc]; exact hl'.2 3 (by simp)
        · rw [Nat.add_assoc]; exact hl'.2 4 (by simp))
      obtain ⟨k, f', m, va, t, ht, hcs⟩ := ty_read n _ _ (g3.trans e3)
      obtain ⟨k2, p2, f2, s2, va2, t2, ht2, hcs2⟩ := ex_read n _ _ (g4.trans e4)
      simp at ha hr hvp ht ht2
      obtain ⟨rfl, rfl, rfl, rfl⟩ := ht
      obtain ⟨rfl, rfl, rfl, rfl, rfl⟩ := ht2
      subst ha hr hvp
      exact ⟨a, r, v2, l, k, f', m, v6, t, k2, p2, f2, s2, v11, t2, rfl, has, hrs, hsl, hcs, hcs2⟩

set_option maxRecDepth 100000 in
theorem mo_read : ∀ (fuel : Nat) (cs : List Value) (x : DataW H × List MemPlace), DataW.trod enc Tryz.prog W base spare held fuel 26 cs = some x → ∃ m vu vt vf, cs = [vu, vt, vf] ∧ MoIs (fun b => b < W.heap.size) W m (.agg #[vu, vt, vf]) := by
  intro fuel
  intro cs x h
  obtain ⟨ys, n, _, _, hlen, hyl0, hf⟩ := DataW.trod_struct Tryz.underlying26 h
  rw [cellsMo] at hlen
  match cs, hlen with
  | [v0, v1, v2], _ =>
      have g0 : DataW.trod enc Tryz.prog W base spare held n 22 (([v0, v1, v2].drop 0).take (Tryz.prog.cellsOf 22)) = ys[0]? := hf 0 _ rfl
      rw [cellsStrs] at g0
      have g1 : DataW.trod enc Tryz.prog W base spare held n 23 (([v0, v1, v2].drop 1).take (Tryz.prog.cellsOf 23)) = ys[1]? := hf 1 _ rfl
      rw [cellsFds] at g1
      have g2 : DataW.trod enc Tryz.prog W base spare held n 24 (([v0, v1, v2].drop 2).take (Tryz.prog.cellsOf 24)) = ys[2]? := hf 2 _ rfl
      rw [cellsFus] at g2
      have hyl : ys.length = 3 := hyl0
      obtain ⟨y0, e0⟩ : ∃ y, ys[0]? = some y := ⟨_, List.getElem?_eq_getElem (by omega)⟩
      obtain ⟨y1, e1⟩ : ∃ y, ys[1]? = some y := ⟨_, List.getElem?_eq_getElem (by omega)⟩
      obtain ⟨y2, e2⟩ : ∃ y, ys[2]? = some y := ⟨_, List.getElem?_eq_getElem (by omega)⟩
      obtain ⟨vu, lu, hvu, hu⟩ := sl_read (P := StrAt W) Tryz.underlying22 cellsS (by omega) (g0.trans e0) (fun m' cs' x' b o hm' hx' _ hl' => by
        obtain ⟨s, rfl, _, hs⟩ := DataW.trod_string Tryz.underlying9 hx'
        exact ⟨s, hl'.2 0 (by simp), hs⟩)
      obtain ⟨vt, lt, hvt, ht⟩ := sl_read (P := FdAt (fun b => b < W.heap.size) W) Tryz.underlying23 cellsFd (by omega) (g1.trans e1) (fun m' cs' x' b o hm' hx' _ hl' => by
        obtain ⟨s', k', f', n', va', t', rfl, hsz', hcs'⟩ := fd_read m' cs' x' hx'
        refine ⟨⟨s', t'⟩, ⟨hl'.2 0 (by simp), hsz'⟩, tyAt_cells.2 ⟨k', f', n', va', hl'.2 1 (by simp), ?_, ?_, ?_, hcs'⟩⟩
        · rw [Nat.add_assoc]; exact hl'.2 2 (by simp)
        · rw [Nat.add_assoc]; exact hl'.2 3 (by simp)
        · rw [Nat.add_assoc]; exact hl'.2 4 (by simp))
      obtain ⟨vf, lf, hvf, hf2⟩ := sl_read (P := FuAt (fun b => b < W.heap.size) W) Tryz.underlying24 cellsFu (by omega) (g2.trans e2) (fun m' cs' x' b o hm' hx' _ hl' => by
        obtain ⟨s, r, vp, ps, k, f, n, va, t, k', n', f', s', va', x', rfl, hs, hr, hps, ht, hx⟩ := fu_read m' cs' x' hx'
        refine ⟨⟨s, r, ps, t, x'⟩, ⟨hl'.2 0 (by simp), hs⟩, ⟨hl'.2 1 (by simp), hr⟩, ⟨vp, hl'.2 2 (by simp), hps⟩, tyAt_cells.2 ⟨k, f, n, va, hl'.2 3 (by simp), ?_, ?_, ?_, ht⟩, exAt_cells.2 ⟨k', n', f', s', va', hl'.2 7 (by simp), ?_, ?_, ?_, ?_, hx⟩⟩
        · rw [Nat.add_assoc]; exact hl'.2 4 (by simp)
        · rw [Nat.add_assoc]; exact hl'.2 5 (by simp)
        · rw [Nat.add_assoc]; exact hl'.2 6 (by simp)
        · rw [Nat.add_assoc]; exact hl'.2 8 (by simp)
        · rw [Nat.add_assoc]; exact hl'.2 9 (by simp)
        · rw [Nat.add_assoc]; exact hl'.2 10 (by simp)
        · rw [Nat.add_assoc]; exact hl'.2 11 (by simp))
      simp at hvu hvt hvf
      subst hvu hvt hvf
      exact ⟨⟨lu, lt, lf⟩, v0, v1, v2, rfl, v0, v1, v2, rfl, hu, ht, hf2⟩

theorem bytesFd : Tryz.prog.bytesOf 64 = 80 := by kernel_rfl
theorem bytesFu : Tryz.prog.bytesOf 54 = 192 := by kernel_rfl

/-- none of its lists is longer than what the form allows. -/
def moSmall (m : Mo) : Prop := m.uses.length ≤ reachBytes ∧ m.types.length ≤ reachBytes ∧ m.funcs.length ≤ reachBytes

set_option maxRecDepth 100000 in
theorem mo_readZ : ∀ (fuel : Nat) (cs : List Value) (x : DataW H × List MemPlace), DataW.trod enc Tryz.prog W base spare held fuel 26 cs = some x → (∀ n ∈ x.1.weights Tryz.prog 26, n ≤ reachBytes) → ∃ m vu vt vf, cs = [vu, vt, vf] ∧ MoIs (fun b => b < W.heap.size) W m (.agg #[vu, vt, vf]) ∧ moSmall m := by
  intro fuel
  intro cs x h hxz
  obtain ⟨ys, n, _, rfl, hlen, hyl0, hf⟩ := DataW.trod_struct Tryz.underlying26 h
  rw [cellsMo] at hlen
  match cs, hlen with
  | [v0, v1, v2], _ =>
      have g0 : DataW.trod enc Tryz.prog W base spare held n 22 (([v0, v1, v2].drop 0).take (Tryz.prog.cellsOf 22)) = ys[0]? := hf 0 _ rfl
      rw [cellsStrs] at g0
      have g1 : DataW.trod enc Tryz.prog W base spare held n 23 (([v0, v1, v2].drop 1).take (Tryz.prog.cellsOf 23)) = ys[1]? := hf 1 _ rfl
      rw [cellsFds] at g1
      have g2 : DataW.trod enc Tryz.prog W base spare held n 24 (([v0, v1, v2].drop 2).take (Tryz.prog.cellsOf 24)) = ys[2]? := hf 2 _ rfl
      rw [cellsFus] at g2
      have hyl : ys.length = 3 := hyl0
      obtain ⟨y0, e0⟩ : ∃ y, ys[0]? = some y := ⟨_, List.getElem?_eq_getElem (by omega)⟩
      obtain ⟨y1, e1⟩ : ∃ y, ys[1]? = some y := ⟨_, List.getElem?_eq_getElem (by omega)⟩
      obtain ⟨y2, e2⟩ : ∃ y, ys[2]? = some y := ⟨_, List.getElem?_eq_getElem (by omega)⟩
      obtain ⟨vu, lu, hvu, hu, zu, _⟩ := sl_readZ (P := StrAt W) (Q := fun _ => True) Tryz.underlying22 cellsS bytesS (by omega) (g0.trans e0) (agg_each Tryz.underlying26 hxz rfl e0) (fun m' cs' x' b o hx' _ _ hl' => by
        obtain ⟨s, rfl, _, hs⟩ := DataW.trod_string Tryz.underlying9 hx'
        exact ⟨s, ⟨hl'.2 0 (by simp), hs⟩, trivial⟩)
      obtain ⟨vt, lt, hvt, ht, zt, _⟩ := sl_readZ (P := FdAt (fun b => b < W.heap.size) W) (Q := fun _ => True) Tryz.underlying23 cellsFd bytesFd (by omega) (g1.trans e1) (agg_each Tryz.underlying26 hxz rfl e1) (fun m' cs' x' b o hx' _ _ hl' => by
        obtain ⟨s', k', f', n', va', t', rfl, hsz', hcs'⟩ := fd_read m' cs' x' hx'
        refine ⟨⟨s', t'⟩, ⟨⟨hl'.2 0 (by simp), hsz'⟩, tyAt_cells.2 ⟨k', f', n', va', hl'.2 1 (by simp), ?_, ?_, ?_, hcs'⟩⟩, trivial⟩
        · rw [Nat.add_assoc]; exact hl'.2 2 (by simp)
        · rw [Nat.add_assoc]; exact hl'.2 3 (by simp)
        · rw [Nat.add_assoc]; exact hl'.2 4 (by simp))
      obtain ⟨vf, lf, hvf, hf2, zf, _⟩ := sl_readZ (P := FuAt (fun b => b < W.heap.size) W) (Q := fun _ => True) Tryz.underlying24 cellsFu bytesFu (by omega) (g2.trans e2) (agg_each Tryz.underlying26 hxz rfl e2) (fun m' cs' x' b o hx' _ _ hl' => by
        obtain ⟨s, r, vp, ps, k, f, n, va, t, k', n', f', s', va', x', rfl, hs, hr, hps, ht, hx⟩ := fu_read m' cs' x' hx'
        refine ⟨⟨s, r, ps, t, x'⟩, ⟨⟨hl'.2 0 (by simp), hs⟩, ⟨hl'.2 1 (by simp), hr⟩, ⟨vp, hl'.2 2 (by simp), hps⟩, tyAt_cells.2 ⟨k, f, n, va, hl'.2 3 (by simp), ?_, ?_, ?_, ht⟩, exAt_cells.2 ⟨k', n', f', s', va', hl'.2 7 (by simp), ?_, ?_, ?_, ?_, hx⟩⟩, trivial⟩
        · rw [Nat.add_assoc]; exact hl'.2 4 (by simp)
        · rw [Nat.add_assoc]; exact hl'.2 5 (by simp)
        · rw [Nat.add_assoc]; exact hl'.2 6 (by simp)
        · rw [Nat.add_assoc]; exact hl'.2 8 (by simp)
        · rw [Nat.add_assoc]; exact hl'.2 9 (by simp)
        · rw [Nat.add_assoc]; exact hl'.2 10 (by simp)
        · rw [Nat.add_assoc]; exact hl'.2 11 (by simp))
      simp at hvu hvt hvf
      subst hvu hvt hvf
      exact ⟨⟨lu, lt, lf⟩, v0, v1, v2, rfl, ⟨v0, v1, v2, rfl, hu, ht, hf2⟩, by show lu.length ≤ _; omega, by show lt.length ≤ _; omega, by show lf.length ≤ _; omega⟩


end

end Go.Proofs.YtcpnfkeoajeodaaGreatDoor
