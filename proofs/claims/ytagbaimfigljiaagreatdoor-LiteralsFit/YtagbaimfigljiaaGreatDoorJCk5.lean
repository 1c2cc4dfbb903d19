import Derived.Test.YtagbaimfigljiaaGreatDoorJCk4
namespace Go.Proofs.YtagbaimfigljiaaGreatDoor
open Go.RowKit
set_option maxRecDepth 100000

/-- the cells of a function whose parts lie in S. -/
def FuC (S : Nat → Prop) (W : World) (x : Fu) (cs : List Value) : Prop := ∃ vp1 vp2 vp3 k f n va1 va2 va3 k' n' f' s' ve1 ve2 ve3, cs = [.string x.name, .string x.var, .slice vp1 vp2 vp3, .int .i64 k, .string f, .string n, .slice va1 va2 va3, .int .i64 k', .int .i64 n', .string f', .string s', .slice ve1 ve2 ve3] ∧
  x.name.size ≤ maxLen ∧ x.var.size ≤ maxLen ∧ SlAt S (FdAt S W) 5 x.params (.slice vp1 vp2 vp3) ∧ TyCs S W x.result k f n (.slice va1 va2 va3) ∧ ExCs S W x.body k' n' f' s' (.slice ve1 ve2 ve3)

theorem fuC_keep {S S' : Nat → Prop} {W W' : World} {x : Fu} {cs : List Value} (hk : Keeps S S' W W') (h : FuC S W x cs) : FuC S' W' x cs := by
  obtain ⟨vp1, vp2, vp3, k, f, n, va1, va2, va3, k', n', f', s', ve1, ve2, ve3, rfl, h1, h2, h3, h4, h5⟩ := h
  exact ⟨vp1, vp2, vp3, k, f, n, va1, va2, va3, k', n', f', s', ve1, ve2, ve3, rfl, h1, h2, fdSl_keep hk h3, h4.keep hk, h5.keep hk⟩

theorem fuC_at {S : Nat → Prop} {W : World} {x : Fu} {cs : List Value} {b o : Nat} (h : FuC S W x cs) (hc : ∀ t u, cs[t]? = some u → W.cell? ⟨b, o + t, none⟩ = some u) : FuAt S W x b o := by
  obtain ⟨vp1, vp2, vp3, k, f, n, va1, va2, va3, k', n', f', s', ve1, ve2, ve3, rfl, h1, h2, h3, h4, h5⟩ := h
  exact ⟨⟨hc 0 _ rfl, h1⟩, ⟨hc 1 _ rfl, h2⟩, ⟨_, hc 2 _ rfl, h3⟩, tyAt_cells.2 ⟨k, f, n, _, hc 3 _ rfl, hc 4 _ rfl, hc 5 _ rfl, hc 6 _ rfl, h4⟩, exAt_cells.2 ⟨k', n', f', s', _, hc 7 _ rfl, hc 8 _ rfl, hc 9 _ rfl, hc 10 _ rfl, hc 11 _ rfl, h5⟩⟩

/-- the cell of a text. -/
def StC (_ : Nat → Prop) (_ : World) (x : ByteArray) (cs : List Value) : Prop := cs = [.string x] ∧ x.size ≤ maxLen

theorem stC_keep {S S' : Nat → Prop} {W W' : World} {x : ByteArray} {cs : List Value} (_ : Keeps S S' W W') (h : StC S W x cs) : StC S' W' x cs := h
theorem stC_at {S : Nat → Prop} {W : World} {x : ByteArray} {cs : List Value} {b o : Nat} (h : StC S W x cs) (hc : ∀ t u, cs[t]? = some u → W.cell? ⟨b, o + t, none⟩ = some u) : StrAt W x b o := by
  obtain ⟨rfl, h⟩ := h
  exact ⟨hc 0 _ rfl, h⟩

section
variable {α : Type} (C : (Nat → Prop) → World → α → List Value → Prop) (T : TypeId) (c : Nat)

/-- a row of elements whose parts lie in S; it is older than block n1. -/
structure RowIs (base n1 : Nat) (S : Nat → Prop) (xs : List α) (v : Value) (ys : List Value) (W : World) : Prop where
  own : W.ownsRow base T c v xs.length ys
  old : ∀ g, v.ownBlock = some g → g < n1
  items : ∀ j (hj : j < xs.length), ∃ cs, cs.length = c ∧ (∀ t, t < c → ys[j * c + t]? = cs[t]?) ∧ C S W xs[j] cs

variable {C T c}

theorem RowIs.keep (hC : ∀ {S S' : Nat → Prop} {W W' : World} {x : α} {cs : List Value}, Keeps S S' W W' → C S W x cs → C S' W' x cs) {base n1 n2 : Nat} {S S' : Nat → Prop} {xs : List α} {v : Value} {ys : List Value} {W W' : World} (h : RowIs C T c base n1 S xs v ys W)
    (hk : Keeps S S' W W') (hrow : ∀ g, v.ownBlock = some g → W'.heap[g]? = W.heap[g]?) (hn : n1 ≤ n2) : RowIs C T c base n2 S' xs v ys W' := by
  refine ⟨⟨h.own.1, h.own.2.imp_right ?_⟩, fun g hg => Nat.lt_of_lt_of_le (h.old g hg) hn, fun j hj => ?_⟩
  · rintro ⟨g, cap, cur, rfl, hb, hg, hr⟩
    exact ⟨g, cap, cur, rfl, hb, (hrow g rfl).trans hg, hr⟩
  · obtain ⟨cs, h1, h2, h3⟩ := h.items j hj
    exact ⟨cs, h1, h2, hC hk h3⟩

theorem RowIs.push (hC : ∀ {S S' : Nat → Prop} {W W' : World} {x : α} {cs : List Value}, Keeps S S' W W' → C S W x cs → C S' W' x cs) {base n1 n2 : Nat} {S S' : Nat → Prop} {xs : List α} {x : α} {v v' : Value} {ys cs : List Value} {W W' : World} (h : RowIs C T c base n1 S xs v ys W)
    (hk : Keeps S S' W W') (hown : W'.ownsRow base T c v' (xs.length + 1) (ys ++ cs)) (hold : ∀ g, v'.ownBlock = some g → g < n2) (hcs : cs.length = c) (hx : C S' W' x cs) : RowIs C T c base n2 S' (xs ++ [x]) v' (ys ++ cs) W' := by
  have e : (xs ++ [x]).length = xs.length + 1 := by simp
  have hyl : ys.length = xs.length * c := h.own.1
  refine ⟨by rw [e]; exact hown, hold, fun j hj => ?_⟩
  by_cases hjx : j < xs.length
  · obtain ⟨c', h1, h2, h3⟩ := h.items j hjx
    refine ⟨c', h1, fun t ht => ?_, ?_⟩
    · have hle : (j + 1) * c ≤ xs.length * c := Nat.mul_le_mul_right c hjx
      rw [Nat.add_mul, Nat.one_mul] at hle
      rw [List.getElem?_append_left (by omega)]
      exact h2 t ht
    · rw [List.getElem_append_left hjx]
      exact hC hk h3
  · have hje : j = xs.length := by omega
    subst hje
    refine ⟨cs, hcs, fun t _ => ?_, ?_⟩
    · rw [List.getElem?_append_right (by omega), hyl]
      congr 1
      omega
    · rw [List.getElem_append_right (Nat.le_refl _)]
      simp only [Nat.sub_self, List.getElem_cons_zero]
      exact hx

theorem RowIs.toSl {P : α → Nat → Nat → Prop} {S : Nat → Prop} {base n1 n0 : Nat} {xs : List α} {v : Value} {ys : List Value} {W : World} {S0 : Nat → Prop}
    (hP : ∀ {x : α} {cs : List Value} {b o : Nat}, C S0 W x cs → (∀ t u, cs[t]? = some u → W.cell? ⟨b, o + t, none⟩ = some u) → P x b o) (h : RowIs C T c base n1 S0 xs v ys W) (hS : ∀ b, base ≤ b → b < W.heap.size → S b) (_ : n0 ≤ base) (hmax : xs.length ≤ maxLen) : SlAt S P c xs v := by
  rcases h.own.2 with ⟨h1, h2⟩ | ⟨g, cap, cur, h1, hb, hg, h3, _⟩
  · subst h1
    exact ⟨none, 0, by rw [h2], ⟨hmax, by omega⟩, Or.inl h2⟩
  · subst h1
    have hin := ownsRow_in h.own g rfl
    refine ⟨_, cap, rfl, ⟨hmax, h3⟩, Or.inr ⟨g, 0, rfl, hS g hin.1 hin.2, RowAt.mk fun j hj => ?_⟩⟩
    obtain ⟨cs, h1, h2, h3⟩ := h.items j hj
    refine hP h3 (fun t u hu => ?_)
    have ht : t < c := by rw [← h1]; exact (List.getElem?_eq_some_iff.1 hu).1
    rw [Nat.zero_add]
    exact own_cell h.own _ _ ((h2 t ht).trans hu)

end

/-- the blocks where the parts of a module lie. -/
def MParts (base n1 : Nat) (vu vt vf : Value) (b : Nat) : Prop := base ≤ b ∧ b < n1 ∧ vu.ownBlock ≠ some b ∧ vt.ownBlock ≠ some b ∧ vf.ownBlock ≠ some b

/-- the module in block M, all of it older than block n1. -/
structure ModAt (base M n1 : Nat) (mo : Mo) (vu vt vf : Value) (W : World) : Prop where
  mod : W.heap[M]? = some (.cells #[vu, vt, vf] 44 (0, 0))
  hM : M < base
  hb : base ≤ n1
  hn : n1 ≤ W.heap.size
  us : ∃ ys, RowIs StC 9 1 base n1 (MParts base n1 vu vt vf) mo.uses vu ys W
  ts : ∃ ys, RowIs FdC 101 5 base n1 (MParts base n1 vu vt vf) mo.types vt ys W
  fs : ∃ ys, RowIs FuC 89 12 base n1 (MParts base n1 vu vt vf) mo.funcs vf ys W

theorem ModAt.keep {base M n1 : Nat} {mo : Mo} {vu vt vf : Value} {W W' : World} (h : ModAt base M n1 mo vu vt vf W) (hb : Below n1 W W') : ModAt base M n1 mo vu vt vf W' := by
  obtain ⟨yu, hu⟩ := h.us
  obtain ⟨yt, ht⟩ := h.ts
  obtain ⟨yf, hf⟩ := h.fs
  have hk : Keeps (MParts base n1 vu vt vf) (MParts base n1 vu vt vf) W W' := ⟨fun b hb' => hb.block b hb'.2.1, fun _ h => h⟩
  have hM := h.hM
  have hbn := h.hb
  exact ⟨(hb.block M (by omega)).trans h.mod, h.hM, h.hb, Nat.le_trans h.hn hb.size, ⟨yu, RowIs.keep (C := StC) (fun hk h => stC_keep hk h) hu hk (fun g hg => hb.block g (hu.old g hg)) (Nat.le_refl _)⟩,
    ⟨yt, RowIs.keep (C := FdC) (fun hk h => fdC_keep hk h) ht hk (fun g hg => hb.block g (ht.old g hg)) (Nat.le_refl _)⟩, ⟨yf, RowIs.keep (C := FuC) (fun hk h => fuC_keep hk h) hf hk (fun g hg => hb.block g (hf.old g hg)) (Nat.le_refl _)⟩⟩

/-- rows of different types lie in different blocks. -/
theorem own_apart {W : World} {base c c' n n' : Nat} {T T' : TypeId} {v v' : Value} {ys ys' : List Value} (h : W.ownsRow base T c v n ys) (h' : W.ownsRow base T' c' v' n' ys') (hT : T ≠ T') {g : Nat} (hg : v.ownBlock = some g) : v'.ownBlock ≠ some g := by
  intro hg'
  rcases h.2 with ⟨rfl, _⟩ | ⟨g1, _, _, rfl, _, h1, _⟩
  · cases hg
  · rcases h'.2 with ⟨rfl, _⟩ | ⟨g2, _, _, rfl, _, h2, _⟩
    · cases hg'
    · have e1 : g1 = g := by simpa [Value.ownBlock] using hg
      have e2 : g2 = g := by simpa [Value.ownBlock] using hg'
      subst e1
      subst e2
      rw [h1] at h2
      injection h2 with h2
      injection h2 with _ h2
      exact hT h2

/-- from W to W' the list v of a module's block has become v'. -/
structure GrewM (base M o : Nat) (cells : Array Value) (T : TypeId) (c : Nat) (v v' : Value) (n : Nat) (ys : List Value) (W W' : World) : Prop where
  os : W'.os = W.os
  tape : W'.tape = W.tape
  output : W'.output = W.output
  size : W.heap.size ≤ W'.heap.size
  mod : W'.heap[M]? = some (.cells (cells.setIfInBounds o v') 44 (0, 0))
  own : W'.ownsRow base T c v' n ys
  rest : ∀ k, k < W.heap.size → k ≠ M → some k ≠ v.ownBlock → W'.heap[k]? = W.heap[k]?
  row : ∀ k, v'.ownBlock = some k → v.ownBlock = some k ∨ W.heap.size ≤ k

theorem grewM_store {base M o c : Nat} {cells : Array Value} {T : TypeId} {v : Value} {n g cap : Nat} {ys : List Value} {W W0 w1 : World} (hM : M < base) (hb : base ≤ W.heap.size)
    (h0 : W.heap.size ≤ W0.heap.size) (hos : W0.os = W.os) (htape : W0.tape = W.tape) (hout : W0.output = W.output) (hk : ∀ k, k < W.heap.size → W0.heap[k]? = W.heap[k]?)
    (hg : W0.grownBy w1 v.ownBlock) (hbox : W.heap[M]? = some (.cells cells 44 (0, 0))) (hbv : some M ≠ v.ownBlock) (hown : w1.ownsRow base T c (.slice (some ⟨g, 0, none⟩) n cap) n ys) (hat : v.ownBlock = some g ∨ W.heap.size ≤ g) :
    GrewM base M o cells T c v (.slice (some ⟨g, 0, none⟩) n cap) n ys W (w1.setCell ⟨M, o, none⟩ (.slice (some ⟨g, 0, none⟩) n cap)) := by
  have hMW : M < W.heap.size := by omega
  have hb1 : w1.heap[M]? = some (.cells cells 44 (0, 0)) := (hg.block M (by omega) hbv).trans ((hk M hMW).trans hbox)
  refine ⟨hg.os.trans hos, hg.tape.trans htape, hg.output.trans hout, ?_, ?_, ?_, ?_, ?_⟩
  · rw [heap_size_setCell]; exact Nat.le_trans h0 hg.size
  · exact block_set hb1 o _
  · exact ownsRow_setCell_below hown (a := ⟨M, o, none⟩) hM _
  · intro k hk' hne hrow
    rw [Below.heap_setCell _ _ _ _ (by show k ≠ M; exact hne), hg.block k (by omega) hrow, hk k hk']
  · intro k hk'
    have : g = k := by simpa [Value.ownBlock] using hk'
    subst this
    exact hat

theorem GrewM.below {base M o c : Nat} {cells : Array Value} {T : TypeId} {v v' : Value} {n n' : Nat} {ys ys' : List Value} {W W' : World} (h : GrewM base M o cells T c v v' n' ys' W W') (hown : W.ownsRow base T c v n ys) (hM : M < base) (hW : M ≤ W.heap.size) : Below M W W' :=
  ⟨h.os, h.tape, h.output, h.size, fun k hk => h.rest k (by omega) (by omega) (fun e => by have := ownsRow_in hown _ e.symm; omega)⟩

theorem ModAt.pushT {base M n1 : Nat} {mo : Mo} {vu vt vf : Value} {W W' : World} {x : Fd} {cs yt : List Value} {v' : Value} (h : ModAt base M n1 mo vu vt vf W) (hy : RowIs FdC 101 5 base n1 (MParts base n1 vu vt vf) mo.types vt yt W)
    (hg : GrewM base M 1 #[vu, vt, vf] 101 5 vt v' (mo.types.length + 1) (yt ++ cs) W W') (hcs : cs.length = 5) (hx : FdC (Fresh n1 W) W x cs) : ModAt base M W'.heap.size { mo with types := mo.types ++ [x] } vu v' vf W' := by
  obtain ⟨yu, hu⟩ := h.us
  obtain ⟨yf, hf⟩ := h.fs
  have hM := h.hM
  have hb := h.hb
  have hn := h.hn
  have hsz := hg.size
  have hk : Keeps (MParts base n1 vu vt vf) (MParts base W'.heap.size vu v' vf) W W' :=
    ⟨fun b hb' => hg.rest b (by have := hb'.2.1; omega) (by have := hb'.1; omega) (fun e => hb'.2.2.2.1 e.symm), fun b hb' => ⟨hb'.1, by have := hb'.2.1; omega, hb'.2.2.1, fun e => by
      rcases hg.row b e with h1 | h1
      · exact hb'.2.2.2.1 h1
      · have := hb'.2.1; omega, hb'.2.2.2.2⟩⟩
  have hkx : Keeps (Fresh n1 W) (MParts base W'.heap.size vu v' vf) W W' :=
    ⟨fun b hb' => hg.rest b hb'.2 (by have := hb'.1; omega) (fun e => by have := hy.old b e.symm; have := hb'.1; omega), fun b hb' => ⟨by have := hb'.1; omega, by have := hb'.2; omega, fun e => by have := hu.old b e; have := hb'.1; omega, fun e => by
      rcases hg.row b e with h1 | h1
      · have := hy.old b h1; have := hb'.1; omega
      · have := hb'.2; omega, fun e => by have := hf.old b e; have := hb'.1; omega⟩⟩
  refine ⟨hg.mod, hM, by omega, Nat.le_refl _, ⟨yu, RowIs.keep (C := StC) (fun hk h => stC_keep hk h) hu hk (fun g' hg' => ?_) (by omega)⟩, ⟨_, RowIs.push (C := FdC) (fun hk h => fdC_keep hk h) hy hk hg.own (fun g' hg' => (ownsRow_in hg.own g' hg').2) hcs (fdC_keep hkx hx)⟩, ⟨yf, RowIs.keep (C := FuC) (fun hk h => fuC_keep hk h) hf hk (fun g' hg' => ?_) (by omega)⟩⟩
  · have h1 := hu.old g' hg'
    have h2 := ownsRow_in hu.own g' hg'
    exact hg.rest g' (by omega) (by omega) (fun e => own_apart hu.own hy.own (by decide) hg' e.symm)
  · have h1 := hf.old g' hg'
    have h2 := ownsRow_in hf.own g' hg'
    exact hg.rest g' (by omega) (by omega) (fun e => own_apart hf.own hy.own (by decide) hg' e.symm)

theorem ModAt.pushF {base M n1 : Nat} {mo : Mo} {vu vt vf : Value} {W W' : World} {x : Fu} {cs yf : List Value} {v' : Value} (h : ModAt base M n1 mo vu vt vf W) (hy : RowIs FuC 89 12 base n1 (MParts base n1 vu vt vf) mo.funcs vf yf W)
    (hg : GrewM base M 2 #[vu, vt, vf] 89 12 vf v' (mo.funcs.length + 1) (yf ++ cs) W W') (hcs : cs.length = 12) (hx : FuC (Fresh n1 W) W x cs) : ModAt base M W'.heap.size { mo with funcs := mo.funcs ++ [x] } vu vt v' W' := by
  obtain ⟨yu, hu⟩ := h.us
  obtain ⟨yt, ht⟩ := h.ts
  have hM := h.hM
  have hb := h.hb
  have hn := h.hn
  have hsz := hg.size
  have hk : Keeps (MParts base n1 vu vt vf) (MParts base W'.heap.size vu vt v') W W' :=
    ⟨fun b hb' => hg.rest b (by have := hb'.2.1; omega) (by have := hb'.1; omega) (fun e => hb'.2.2.2.2 e.symm), fun b hb' => ⟨hb'.1, by have := hb'.2.1; omega, hb'.2.2.1, hb'.2.2.2.1, fun e => by
      rcases hg.row b e with h1 | h1
      · exact hb'.2.2.2.2 h1
      · have := hb'.2.1; omega⟩⟩
  have hkx : Keeps (Fresh n1 W) (MParts base W'.heap.size vu vt v') W W' :=
    ⟨fun b hb' => hg.rest b hb'.2 (by have := hb'.1; omega) (fun e => by have := hy.old b e.symm; have := hb'.1; omega), fun b hb' => ⟨by have := hb'.1; omega, by have := hb'.2; omega, fun e => by have := hu.old b e; have := hb'.1; omega, fun e => by have := ht.old b e; have := hb'.1; omega, fun e => by
      rcases hg.row b e with h1 | h1
      · have := hy.old b h1; have := hb'.1; omega
      · have := hb'.2; omega⟩⟩
  refine ⟨hg.mod, hM, by omega, Nat.le_refl _, ⟨yu, RowIs.keep (C := StC) (fun hk h => stC_keep hk h) hu hk (fun g' hg' => ?_) (by omega)⟩, ⟨yt, RowIs.keep (C := FdC) (fun hk h => fdC_keep hk h) ht hk (fun g' hg' => ?_) (by omega)⟩, ⟨_, RowIs.push (C := FuC) (fun hk h => fuC_keep hk h) hy hk hg.own (fun g' hg' => (ownsRow_in hg.own g' hg').2) hcs (fuC_keep hkx hx)⟩⟩
  · have h1 := hu.old g' hg'
    have h2 := ownsRow_in hu.own g' hg'
    exact hg.rest g' (by omega) (by omega) (fun e => own_apart hu.own hy.own (by decide) hg' e.symm)
  · have h1 := ht.old g' hg'
    have h2 := ownsRow_in ht.own g' hg'
    exact hg.rest g' (by omega) (by omega) (fun e => own_apart ht.own hy.own (by decide) hg' e.symm)

theorem ModAt.pushU {base M n1 : Nat} {mo : Mo} {vu vt vf : Value} {W W' : World} {x : ByteArray} {yu : List Value} {v' : Value} (h : ModAt base M n1 mo vu vt vf W) (hy : RowIs StC 9 1 base n1 (MParts base n1 vu vt vf) mo.uses vu yu W)
    (hg : GrewM base M 0 #[vu, vt, vf] 9 1 vu v' (mo.uses.length + 1) (yu ++ [.string x]) W W') (hx : x.size ≤ maxLen) : ModAt base M W'.heap.size { mo with uses := mo.uses ++ [x] } v' vt vf W' := by
  obtain ⟨yt, ht⟩ := h.ts
  obtain ⟨yf, hf⟩ := h.fs
  have hM := h.hM
  have hb := h.hb
  have hn := h.hn
  have hsz := hg.size
  have hk : Keeps (MParts base n1 vu vt vf) (MParts base W'.heap.size v' vt vf) W W' :=
    ⟨fun b hb' => hg.rest b (by have := hb'.2.1; omega) (by have := hb'.1; omega) (fun e => hb'.2.2.1 e.symm), fun b hb' => ⟨hb'.1, by have := hb'.2.1; omega, fun e => by
      rcases hg.row b e with h1 | h1
      · exact hb'.2.2.1 h1
      · have := hb'.2.1; omega, hb'.2.2.2.1, hb'.2.2.2.2⟩⟩
  refine ⟨hg.mod, hM, by omega, Nat.le_refl _, ⟨_, RowIs.push (C := StC) (fun hk h => stC_keep hk h) hy hk hg.own (fun g' hg' => (ownsRow_in hg.own g' hg').2) rfl ⟨rfl, hx⟩⟩, ⟨yt, RowIs.keep (C := FdC) (fun hk h => fdC_keep hk h) ht hk (fun g' hg' => ?_) (by omega)⟩, ⟨yf, RowIs.keep (C := FuC) (fun hk h => fuC_keep hk h) hf hk (fun g' hg' => ?_) (by omega)⟩⟩
  · have h1 := ht.old g' hg'
    have h2 := ownsRow_in ht.own g' hg'
    exact hg.rest g' (by omega) (by omega) (fun e => own_apart ht.own hy.own (by decide) hg' e.symm)
  · have h1 := hf.old g' hg'
    have h2 := ownsRow_in hf.own g' hg'
    exact hg.rest g' (by omega) (by omega) (fun e => own_apart hf.own hy.own (by decide) hg' e.symm)

/-- a module that lies so is a module's value. -/
theorem ModAt.is {base M n1 : Nat} {mo : Mo} {vu vt vf : Value} {W : World} (h : ModAt base M n1 mo vu vt vf W) (h1 : mo.uses.length ≤ maxLen) (h2 : mo.types.length ≤ maxLen) (h3 : mo.funcs.length ≤ maxLen) : MoIs (Fresh base W) W mo (.agg #[vu, vt, vf]) := by
  obtain ⟨yu, hu⟩ := h.us
  obtain ⟨yt, ht⟩ := h.ts
  obtain ⟨yf, hf⟩ := h.fs
  have hn := h.hn
  have hk : Keeps (MParts base n1 vu vt vf) (Fresh base W) W W := ⟨fun _ _ => rfl, fun b hb => ⟨hb.1, by have := hb.2.1; omega⟩⟩
  exact ⟨vu, vt, vf, rfl, hu.toSl (n0 := 0) (fun hc h => stC_at hc h) (fun b h1 h2 => ⟨h1, h2⟩) (Nat.zero_le _) h1, ht.toSl (n0 := 0) (fun hc h => fdC_at (by obtain ⟨_, _, _, _, _, _, rfl, _⟩ := hc; rfl) (fdC_keep hk hc) h) (fun b h1 h2 => ⟨h1, h2⟩) (Nat.zero_le _) h2,
    hf.toSl (n0 := 0) (fun hc h => fuC_at (fuC_keep hk hc) h) (fun b h1 h2 => ⟨h1, h2⟩) (Nat.zero_le _) h3⟩

end Go.Proofs.YtagbaimfigljiaaGreatDoor
namespace Go.Proofs.YtagbaimfigljiaaGreatDoor
open Go.RowKit
set_option maxRecDepth 100000

theorem fdT_size : (Tryz.prog.info? 101).map (·.size) = some 5 := by kernel_rfl
theorem fuT_size : (Tryz.prog.info? 89).map (·.size) = some 12 := by kernel_rfl
theorem fu_info : (Tryz.prog.info? 89).map (fun i => (i.zero, i.size, i.bytes)) = some (some (.agg #[.string ⟨#[]⟩, .string ⟨#[]⟩, .slice none 0 0, .int .i64 0, .string ⟨#[]⟩, .string ⟨#[]⟩, .slice none 0 0, .int .i64 0, .int .i64 0, .string ⟨#[]⟩, .string ⟨#[]⟩, .slice none 0 0]), 12, 192) := by kernel_rfl

set_option maxHeartbeats 1000000 in
theorem end_next (B : Nat) (ta : Option Addr) (tn tcap j : Nat) (w : World) (h : w.heap[B]? = some (.cells #[.slice ta tn tcap, .int .i64 j] 181 (0, 0))) :
    Calls Tryz.prog 124 #[.pointer (some ⟨B, 0, none⟩)] w fun e w' => e = .returned (.int .i64 (if tn ≤ j then 0 else 4)) ∧ Below w.heap.size w w' := by
  have c0 : w.cell? ⟨B, 0, none⟩ = some (.slice ta tn tcap) := by rw [cell_of_row w B 0 _ _ _ h]; rfl
  have c1 : w.cell? ⟨B, 1, none⟩ = some (.int .i64 j) := by rw [cell_of_row w B 1 _ _ _ h]; rfl
  clear h
  by_cases hj : tn ≤ j
  · have hj' : ¬ (j : Int) < (tn : Int) := by omega
    rw [if_pos hj]
    go_enter Tryz.func124, Tryz.ntmps124
    go_wp2_with fail
    go_region
    all_goals
      go_wp2_with fail
      go_ret
      exact ⟨rfl, (Below.refl _ _).drew⟩
  · have hj' : (j : Int) < (tn : Int) := by omega
    rw [if_neg hj]
    go_enter Tryz.func124, Tryz.ntmps124
    go_wp2_with fail
    go_region
    all_goals
      go_wp2_with fail
      go_ret
      exact ⟨rfl, (Below.refl _ _).drew⟩

set_option maxHeartbeats 8000000 in
theorem pushT_step (R : Int → World → Prop) (base M n1 bm br B : Nat) (cells : Array Value) (la : Option Addr) (lcap m : Nat) (xs : List Value) (nm : ByteArray) (k : Int) (f n : ByteArray) (va1 : Option Addr) (va2 va3 : Nat) (ta : Option Addr) (tn tcap j : Nat) (W : World)
    (hl : W.heap[M]? = some (.cells cells 44 (0, 0))) (hcell : cells[1]? = some (.slice la m lcap)) (hown : W.ownsRow base 101 5 (.slice la m lcap) m xs) (hold : ∀ g, (Value.slice la m lcap).ownBlock = some g → g < n1) (hM : M < base) (hb1 : base ≤ n1) (hn1 : n1 ≤ W.heap.size)
    (hn : m + 1 ≤ maxLen) (hb : (m + 1) * 80 ≤ 140737488355328) (cm : W.cell? ⟨bm, 0, none⟩ = some (.pointer (some ⟨M, 0, none⟩))) (cr : W.cell? ⟨br, 0, none⟩ = some (.pointer (some ⟨B, 0, none⟩))) (hbm : n1 ≤ bm) (hbr : n1 ≤ br) (hB : n1 ≤ B)
    (hrd : W.heap[B]? = some (.cells #[.slice ta tn tcap, .int .i64 j] 181 (0, 0)))
    (hR : ∀ g cap w w', GrewM base M 1 cells 101 5 (.slice la m lcap) (.slice (some ⟨g, 0, none⟩) (m + 1) cap) (m + 1) (xs ++ [.string nm, .int .i64 k, .string f, .string n, .slice va1 va2 va3]) W w → Below w.heap.size w w' → R (if tn ≤ j then 0 else 4) w') :
    Calls Tryz.prog 123 #[.agg #[.string nm, .int .i64 k, .string f, .string n, .slice va1 va2 va3], .pointer (some ⟨bm, 0, none⟩), .pointer (some ⟨br, 0, none⟩)] W (Ends R) := by
  obtain ⟨i0, hi0, hz0, hz1, hz2⟩ := info_parts fd_info
  have HI0 := veil hi0
  have HZ0 := veil hz0
  have HZ1 := veil hz1
  have HZ2 := veil hz2
  have HL := veil hl
  have HCell := veil hcell
  have HOwn := veil hown
  have HOldR := veil hold
  have HM := veil hM
  have HB1 := veil hb1
  have HN1 := veil hn1
  have HNl := veil hn
  have HBy := veil hb
  have HR := veil hR
  have HRd := veil hrd
  have HCr := veil cr
  have hbmW : bm < W.heap.size := World.block_lt_of_cell? W _ cm
  have hbrW : br < W.heap.size := World.block_lt_of_cell? W _ cr
  have HCm := veil cm
  have hMW : M < W.heap.size := by omega
  have hMm : bm ≠ M := by omega
  have hMr : br ≠ M := by omega
  have hMB : B ≠ M := by omega
  have hBW := heap_lt hrd
  clear hl hcell hown hold hM hn hb hR hrd cr cm hb1 hn1 hi0 hz0 hz1 hz2
  have m0 : (0 : Int) ≤ (m : Int) := Int.natCast_nonneg _
  go_enter Tryz.func123, Tryz.ntmps123
  go_wp2_with fail
  refine Code.wp_mono (Q := Normal fun a w => ∃ g cap, a = { tmps := #[.agg #[.string nm, .int .i64 k, .string f, .string n, .slice va1 va2 va3], .pointer (some ⟨bm, 0, none⟩), .pointer (some ⟨br, 0, none⟩), .pointer (some ⟨W.heap.size, 0, none⟩), .int .i64 0, .pointer (some ⟨M, 0, none⟩), .pointer (some ⟨M, 0, none⟩), .pointer (some ⟨M, 0, none⟩), .pointer (some ⟨M, 1, none⟩), .slice la m lcap, .agg #[.string nm, .int .i64 k, .string f, .string n, .slice va1 va2 va3], .slice (some ⟨W.heap.size + 1, 0, none⟩) 1 1, .slice (some ⟨g, 0, none⟩) (m + 1) cap, .pointer (some ⟨M, 0, none⟩), .pointer (some ⟨M, 1, none⟩), undef, undef], defers := [] } ∧
      GrewM base M 1 cells 101 5 (.slice la m lcap) (.slice (some ⟨g, 0, none⟩) (m + 1) cap) (m + 1) (xs ++ [.string nm, .int .i64 k, .string f, .string n, .slice va1 va2 va3]) W w) ?imp ?reg
  case imp =>
    intro e a w h
    cases e with
    | normal =>
      obtain ⟨g, cap, rfl, hG⟩ := h
      have hrow : ∀ k, n1 ≤ k → some k ≠ (Value.slice la m lcap).ownBlock := fun k hk e => by have := HOldR.out k e.symm; omega
      have HRes := veil (fun w' => HR.out g cap w w' hG)
      have c1 : w.cell? ⟨br, 0, none⟩ = some (.pointer (some ⟨B, 0, none⟩)) := (World.cell?_of_block (hG.rest br hbrW hMr (hrow br hbr))).trans HCr.out
      have HRd1 : Hid (w.heap[B]? = some (.cells #[.slice ta tn tcap, .int .i64 j] 181 (0, 0))) := (hG.rest B hBW hMB (hrow B hB)).trans HRd.out
      clear hG hrow
      go_wp2_with fail
      refine (end_next B ta tn tcap j w HRd1.out).mono ?_
      rintro e w' ⟨rfl, hb⟩
      have HF := veil (HRes.out w' hb)
      clear hb
      generalize (if tn ≤ j then (0 : Int) else 4) = y at *
      go_wp2_with fail
      go_ret
      exact ⟨_, rfl, HF.out⟩
    | _ => exact h.elim
  case reg =>
    have hcM : W.cell? ⟨M, 1, none⟩ = some (.slice la m lcap) := by rw [cell_of_row W M 1 _ _ _ HL.out]; exact HCell.out
    have hcl : (W.alloc (.cells #[.string nm, .int .i64 k, .string f, .string n, .slice va1 va2 va3] 101)).drew.cell? ⟨M, 1, none⟩ = some (.slice la m lcap) := by
      show (W.alloc _).cell? _ = _
      rw [World.cell?_alloc_old _ _ _ (by show M ≠ _; omega)]; exact hcM
    have hcl2 : ((W.alloc (.cells #[.string nm, .int .i64 k, .string f, .string n, .slice va1 va2 va3] 101)).alloc (.cells #[.string nm, .int .i64 k, .string f, .string n, .slice va1 va2 va3] 101)).drew.cell? ⟨M, 1, none⟩ = some (.slice la m lcap) := by
      show ((W.alloc _).alloc _).cell? _ = _
      rw [World.cell?_alloc_old _ _ _ (by show M ≠ _; simp; omega)]
      exact hcl
    have hx1 : (W.alloc (.cells #[.string nm, .int .i64 k, .string f, .string n, .slice va1 va2 va3] 101)).rangeAt W.heap.size 0 [.string nm, .int .i64 k, .string f, .string n, .slice va1 va2 va3] := by
      intro j u hu
      rw [Nat.zero_add, World.cell?_alloc_new]
      simpa using hu
    have hm1 : (W.alloc (.cells #[.string nm, .int .i64 k, .string f, .string n, .slice va1 va2 va3] 101)).cell? ⟨bm, 0, none⟩ = some (.pointer (some ⟨M, 0, none⟩)) := by
      rw [World.cell?_alloc_old _ _ _ (by show bm ≠ _; omega)]; exact HCm.out
    have hm2 : ((W.alloc (.cells #[.string nm, .int .i64 k, .string f, .string n, .slice va1 va2 va3] 101)).alloc (.cells #[.string nm, .int .i64 k, .string f, .string n, .slice va1 va2 va3] 101)).cell? ⟨bm, 0, none⟩ = some (.pointer (some ⟨M, 0, none⟩)) := by
      rw [World.cell?_alloc_old _ _ _ (by show bm ≠ _; simp; omega)]; exact hm1
    have HX1 : Hid ((W.alloc (.cells #[.string nm, .int .i64 k, .string f, .string n, .slice va1 va2 va3] 101)).drew.rangeAt W.heap.size 0 [.string nm, .int .i64 k, .string f, .string n, .slice va1 va2 va3] ∧ (W.alloc (.cells #[.string nm, .int .i64 k, .string f, .string n, .slice va1 va2 va3] 101)).drew.cell? ⟨bm, 0, none⟩ = some (.pointer (some ⟨M, 0, none⟩))) := ⟨(World.rangeAt_drew _ _ _ _).2 hx1, hm1⟩
    have HX2 : Hid (((W.alloc (.cells #[.string nm, .int .i64 k, .string f, .string n, .slice va1 va2 va3] 101)).alloc (.cells #[.string nm, .int .i64 k, .string f, .string n, .slice va1 va2 va3] 101)).drew.rangeAt W.heap.size 0 [.string nm, .int .i64 k, .string f, .string n, .slice va1 va2 va3] ∧ ((W.alloc (.cells #[.string nm, .int .i64 k, .string f, .string n, .slice va1 va2 va3] 101)).alloc (.cells #[.string nm, .int .i64 k, .string f, .string n, .slice va1 va2 va3] 101)).drew.cell? ⟨bm, 0, none⟩ = some (.pointer (some ⟨M, 0, none⟩))) := ⟨(World.rangeAt_drew _ _ _ _).2 (World.rangeAt_alloc hx1 (.cells #[.string nm, .int .i64 k, .string f, .string n, .slice va1 va2 va3] 101)), hm2⟩
    clear hx1 hm1 hm2
    have HNews : Hid (∀ j u, ([.string nm, .int .i64 k, .string f, .string n, .slice va1 va2 va3] : List Value)[j]? = some u → ((W.alloc (.cells #[.string nm, .int .i64 k, .string f, .string n, .slice va1 va2 va3] 101)).alloc (.cells #[.string nm, .int .i64 k, .string f, .string n, .slice va1 va2 va3] 101)).drew.cell? ((⟨W.heap.size + 1, 0, none⟩ : Addr).add j) = some u) := by
      refine World.news_of_block (cs := #[.string nm, .int .i64 k, .string f, .string n, .slice va1 va2 va3]) (t := 101) (fr := (0, 0)) ?_
      have h := heap_alloc_new (W.alloc (.cells #[.string nm, .int .i64 k, .string f, .string n, .slice va1 va2 va3] 101)) (.cells #[.string nm, .int .i64 k, .string f, .string n, .slice va1 va2 va3] 101)
      rw [show (W.alloc (.cells #[.string nm, .int .i64 k, .string f, .string n, .slice va1 va2 va3] 101)).heap.size = W.heap.size + 1 by simp] at h
      exact h
    have HOne : Hid (∀ u ∈ ([.string nm, .int .i64 k, .string f, .string n, .slice va1 va2 va3] : List Value), u.oneCell' = true) := by
      have h : ([.string nm, .int .i64 k, .string f, .string n, .slice va1 va2 va3] : List Value).all (·.oneCell') = true := by simp [Value.oneCell']
      exact fun u hu => List.all_eq_true.1 h u hu
    have HH : Hid (((W.alloc (.cells #[.string nm, .int .i64 k, .string f, .string n, .slice va1 va2 va3] 101)).alloc (.cells #[.string nm, .int .i64 k, .string f, .string n, .slice va1 va2 va3] 101)).drew.heap.size = W.heap.size + 2) := by
      show ((W.alloc _).alloc _).heap.size = _
      simp
    have HBs : Hid (base ≤ ((W.alloc (.cells #[.string nm, .int .i64 k, .string f, .string n, .slice va1 va2 va3] 101)).alloc (.cells #[.string nm, .int .i64 k, .string f, .string n, .slice va1 va2 va3] 101)).drew.heap.size) := by show _ ≤ _; rw [HH.out]; have := HB1.out; have := HN1.out; omega
    have HFarM : Hid (some M ≠ (Value.slice la m lcap).ownBlock) := fun h => by have := ownsRow_in HOwn.out _ h.symm; have := HM.out; omega
    have HFar : Hid (∀ g, ((Value.slice la m lcap).ownBlock = some g ∨ g = W.heap.size + 2) → M ≠ g ∧ W.heap.size ≠ g) := by
      intro g h
      have h1 := HM.out
      rcases h with h | h
      · have := ownsRow_in HOwn.out _ h; omega
      · omega
    have HOld : Hid (∀ k', k' < W.heap.size → ((W.alloc (.cells #[.string nm, .int .i64 k, .string f, .string n, .slice va1 va2 va3] 101)).alloc (.cells #[.string nm, .int .i64 k, .string f, .string n, .slice va1 va2 va3] 101)).drew.heap[k']? = W.heap[k']?) := by
      intro k' hk'
      show ((W.alloc _).alloc _).heap[k']? = _
      rw [heap_alloc_old _ _ (by simp; omega), heap_alloc_old _ _ (by omega)]
    have HC2 : Hid (∀ w1, ((W.alloc (.cells #[.string nm, .int .i64 k, .string f, .string n, .slice va1 va2 va3] 101)).alloc (.cells #[.string nm, .int .i64 k, .string f, .string n, .slice va1 va2 va3] 101)).drew.grownBy w1 (Value.slice la m lcap).ownBlock → w1.cell? ⟨M, 1, none⟩ = some (.slice la m lcap) ∧ w1.frozen? ⟨M, 1, none⟩ = false) := by
      intro w1 hg
      have hb1 : w1.heap[M]? = some (.cells cells 44 (0, 0)) := (hg.block M (by rw [HH.out]; omega) HFarM.out).trans ((HOld.out M hMW).trans HL.out)
      exact ⟨by rw [cell_of_row w1 M 1 _ _ _ hb1]; exact HCell.out, Lib.frozen_of_heap hb1 1⟩
    have HGr : Hid (∀ g' cap' w1, w1.ownsRow base 101 5 (.slice (some ⟨g', 0, none⟩) (m + 1) cap') (m + 1) (xs ++ [.string nm, .int .i64 k, .string f, .string n, .slice va1 va2 va3]) → ((W.alloc (.cells #[.string nm, .int .i64 k, .string f, .string n, .slice va1 va2 va3] 101)).alloc (.cells #[.string nm, .int .i64 k, .string f, .string n, .slice va1 va2 va3] 101)).drew.grownBy w1 (Value.slice la m lcap).ownBlock → ((Value.slice la m lcap).ownBlock = some g' ∨ g' = W.heap.size + 2) → GrewM base M 1 cells 101 5 (.slice la m lcap) (.slice (some ⟨g', 0, none⟩) (m + 1) cap') (m + 1) (xs ++ [.string nm, .int .i64 k, .string f, .string n, .slice va1 va2 va3]) W (w1.setCell ⟨M, 1, none⟩ (.slice (some ⟨g', 0, none⟩) (m + 1) cap'))) := fun g' cap' w1 ho hg hat =>
      grewM_store (W0 := ((W.alloc (.cells #[.string nm, .int .i64 k, .string f, .string n, .slice va1 va2 va3] 101)).alloc (.cells #[.string nm, .int .i64 k, .string f, .string n, .slice va1 va2 va3] 101)).drew) HM.out (Nat.le_trans HB1.out HN1.out) (by rw [HH.out]; omega) rfl rfl rfl HOld.out hg HL.out HFarM.out ho (hat.imp_right (fun h => by omega))
    have HS1 : Hid (∀ w1, ((W.alloc (.cells #[.string nm, .int .i64 k, .string f, .string n, .slice va1 va2 va3] 101)).alloc (.cells #[.string nm, .int .i64 k, .string f, .string n, .slice va1 va2 va3] 101)).drew.grownBy w1 (Value.slice la m lcap).ownBlock → w1.rangeAt W.heap.size 0 [.string nm, .int .i64 k, .string f, .string n, .slice va1 va2 va3] ∧ w1.cell? ⟨bm, 0, none⟩ = some (.pointer (some ⟨M, 0, none⟩))) := by
      intro w1 hg
      refine ⟨fun j u hu => ?_, ?_⟩
      · rw [hg.cell_far _ (by rw [HH.out]; show W.heap.size < _; omega) (fun h => by have := ownsRow_in HOwn.out _ h.symm; have h2 : W.heap.size < W.heap.size := this.2; omega)]
        exact HX2.out.1 j u hu
      · rw [hg.cell_far _ (by rw [HH.out]; show bm < _; omega) (fun h => by have := HOldR.out _ h.symm; have h2 : bm < n1 := this; omega)]
        exact HX2.out.2
    refine wp_region_held_drew (S := fun w' => w'.rangeAt W.heap.size 0 [.string nm, .int .i64 k, .string f, .string n, .slice va1 va2 va3] ∧ w'.cell? ⟨bm, 0, none⟩ = some (.pointer (some ⟨M, 0, none⟩))) (by kernel_rfl) HX1.out (fun hHeld => ?_)
    refine any_take 0 rfl rfl (by kernel_rfl) (by kernel_rfl) (by kernel_rfl) (fun _ _ _ h => h) (v := .pointer (some ⟨M, 0, none⟩)) (Or.inl ⟨by rfl, fun w hSw => by have hSm := hSw.2; clear hSw; go_simp⟩) hHeld ?_
    refine any_take 1 rfl rfl (by kernel_rfl) (by kernel_rfl) (by kernel_rfl) (fun _ _ _ h => h) (v := .pointer (some ⟨M, 0, none⟩)) (Or.inl ⟨by rfl, fun w hSw => by have hSm := hSw.2; clear hSw; go_simp⟩) hHeld ?_
    refine any_take 2 rfl rfl (by kernel_rfl) (by kernel_rfl) (by kernel_rfl) (fun _ _ _ h => h) (v := .pointer (some ⟨M, 0, none⟩)) (Or.inl ⟨by rfl, fun w _ => by go_simp⟩) hHeld ?_
    refine any_take 3 rfl rfl (by kernel_rfl) (by kernel_rfl) (by kernel_rfl) (fun _ _ _ h => h) (v := .pointer (some ⟨M, 1, none⟩)) (Or.inl ⟨by rfl, fun w _ => by go_simp⟩) hHeld ?_
    refine any_take 5 rfl rfl (by kernel_rfl) (by kernel_rfl) (by kernel_rfl) (fun _ _ _ h => h) (yieldsIf_load_mid (by rfl) _ _ rfl _ _ rfl [.string nm, .int .i64 k, .string f, .string n, .slice va1 va2 va3] _ (fun _ h => h.1) Tryz.underlying101 rfl fdT_size) hHeld ?_
    refine any_two 4 6 (by kernel_rfl) rfl rfl rfl rfl (fun K hK => ?_) (fun K hK => ?_)
    · have HK := veil hK
      clear hK
      go_simp
      refine HK.out _ _ HX1.out ?_
      clear HK K
      refine any_one 6 (by kernel_rfl) rfl rfl (fun K hK => ?_)
      have HK := veil hK
      clear hK
      go_simp
      refine HK.out _ _ HX2.out ?_
      clear HK K
      refine any_one 7 (by kernel_rfl) rfl rfl (fun K hK => ?_)
      refine wp_append_lies _ _ _ _ rfl base 101 i0 _ 5 80 Tryz.underlying41 HI0.out HZ0.out HZ1.out HZ2.out rfl (by omega) (.slice la m lcap) m xs rfl (((HOwn.out.alloc _).alloc _).drew) ⟨W.heap.size + 1, 0, none⟩ 1 1 [.string nm, .int .i64 k, .string f, .string n, .slice va1 va2 va3] rfl rfl HNews.out HOne.out (by omega) HNl.out HBy.out HBs.out (W.heap.size + 2) HH.out (fun g cap w1 hown1 hgrow hat hlt => ?_)
      have hS1 := HS1.out w1 hgrow
      refine hK _ _ hS1 ?_
      clear hK K
      obtain ⟨hc2, hf2⟩ := HC2.out w1 hgrow
      have HG := veil (HGr.out g cap w1 hown1 hgrow hat)
      have HF := veil (HFar.out g hat)
      have HSx := veil hS1.1
      have HSm := veil hS1.2
      clear hown1 hgrow
      refine any_take 8 rfl rfl (by kernel_rfl) (by kernel_rfl) (by kernel_rfl) (fun _ _ _ h => h) (v := .pointer (some ⟨M, 0, none⟩)) (Or.inl ⟨by rfl, fun w _ => by go_simp⟩) hS1 ?_
      refine any_take 9 rfl rfl (by kernel_rfl) (by kernel_rfl) (by kernel_rfl) (fun _ _ _ h => h) (v := .pointer (some ⟨M, 1, none⟩)) (Or.inl ⟨by rfl, fun w _ => by go_simp⟩) hS1 ?_
      refine any_one 10 (by kernel_rfl) rfl rfl (fun K hK => ?_)
      have HK := veil hK
      clear hK hS1
      go_simp
      refine HK.out _ _ ⟨fun j u hu => ?_, ?_⟩ (wpAnyH_done (by kernel_rfl) ⟨g, cap, rfl, HG.out⟩ _)
      · rw [World.cell?_setCell_other _ _ _ _ (by intro h; injection h with h _ _; omega)]
        exact HSx.out j u hu
      · rw [World.cell?_setCell_other _ _ _ _ (by intro h; injection h with h _ _; omega)]
        exact HSm.out
    · have HK := veil hK
      clear hK
      go_simp
      refine HK.out _ _ HX2.out ?_
      clear HK K
      refine any_one 4 (by kernel_rfl) rfl rfl (fun K hK => ?_)
      have HK := veil hK
      clear hK
      go_simp
      refine HK.out _ _ HX2.out ?_
      clear HK K
      refine any_one 7 (by kernel_rfl) rfl rfl (fun K hK => ?_)
      refine wp_append_lies _ _ _ _ rfl base 101 i0 _ 5 80 Tryz.underlying41 HI0.out HZ0.out HZ1.out HZ2.out rfl (by omega) (.slice la m lcap) m xs rfl (((HOwn.out.alloc _).alloc _).drew) ⟨W.heap.size + 1, 0, none⟩ 1 1 [.string nm, .int .i64 k, .string f, .string n, .slice va1 va2 va3] rfl rfl HNews.out HOne.out (by omega) HNl.out HBy.out HBs.out (W.heap.size + 2) HH.out (fun g cap w1 hown1 hgrow hat hlt => ?_)
      have hS1 := HS1.out w1 hgrow
      refine hK _ _ hS1 ?_
      clear hK K
      obtain ⟨hc2, hf2⟩ := HC2.out w1 hgrow
      have HG := veil (HGr.out g cap w1 hown1 hgrow hat)
      have HF := veil (HFar.out g hat)
      have HSx := veil hS1.1
      have HSm := veil hS1.2
      clear hown1 hgrow
      refine any_take 8 rfl rfl (by kernel_rfl) (by kernel_rfl) (by kernel_rfl) (fun _ _ _ h => h) (v := .pointer (some ⟨M, 0, none⟩)) (Or.inl ⟨by rfl, fun w _ => by go_simp⟩) hS1 ?_
      refine any_take 9 rfl rfl (by kernel_rfl) (by kernel_rfl) (by kernel_rfl) (fun _ _ _ h => h) (v := .pointer (some ⟨M, 1, none⟩)) (Or.inl ⟨by rfl, fun w _ => by go_simp⟩) hS1 ?_
      refine any_one 10 (by kernel_rfl) rfl rfl (fun K hK => ?_)
      have HK := veil hK
      clear hK hS1
      go_simp
      refine HK.out _ _ ⟨fun j u hu => ?_, ?_⟩ (wpAnyH_done (by kernel_rfl) ⟨g, cap, rfl, HG.out⟩ _)
      · rw [World.cell?_setCell_other _ _ _ _ (by intro h; injection h with h _ _; omega)]
        exact HSx.out j u hu
      · rw [World.cell?_setCell_other _ _ _ _ (by intro h; injection h with h _ _; omega)]
        exact HSm.out

end Go.Proofs.YtagbaimfigljiaaGreatDoor
