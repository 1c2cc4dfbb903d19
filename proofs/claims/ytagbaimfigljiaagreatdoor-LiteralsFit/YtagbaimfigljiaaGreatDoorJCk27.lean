import Derived.Test.YtagbaimfigljiaaGreatDoorJCk26
import Derived.Test.YtagbaimfigljiaaGreatDoorJCk15
import Derived.Deep.RegionHeld3
namespace Go.Proofs.YtagbaimfigljiaaGreatDoor
open Go.RowKit
set_option maxRecDepth 100000

/-- the params of a function, with their kinds. -/
def bodyPs (m : Mo) (l : List Im) (k : Nat) : List Kn := match m.funcs[k]? with
  | some f => knsOf f.params (oneSg m l k).params
  | none => []
/-- what the function's body is. -/
def bodyIs (m : Mo) (l : List Im) (own : Fc) (k : Nat) : ByteArray × Int := match m.funcs[k]? with
  | some f => exIs (bodyPs m l k) (faceOf m l own) f.body
  | none => badEx 6
def bodyCode (m : Mo) (l : List Im) (own : Fc) (k : Nat) : Int :=
  if oneCode m l k = 0 then (if (bodyIs m l own k).2 = 0 then (if sEq (bodyIs m l own k).1 (oneSg m l k).result = true then 0 else 8) else (bodyIs m l own k).2) else oneCode m l k

theorem bodyPs_at {m : Mo} {l : List Im} {k : Nat} (h : k < m.funcs.length) : bodyPs m l k = knsOf m.funcs[k].params (oneSg m l k).params := by
  unfold bodyPs
  rw [List.getElem?_eq_getElem h]
theorem bodyIs_at {m : Mo} {l : List Im} {own : Fc} {k : Nat} (h : k < m.funcs.length) : bodyIs m l own k = exIs (bodyPs m l k) (faceOf m l own) m.funcs[k].body := by
  unfold bodyIs
  rw [List.getElem?_eq_getElem h]
/-- where nothing is wrong, there are as many kinds as params. -/
theorem one_len {m : Mo} {l : List Im} {k : Nat} (h : k < m.funcs.length) (h0 : oneCode m l k = 0) : (oneSg m l k).params.length = m.funcs[k].params.length := by
  obtain ⟨h1, h2⟩ := oneCode_at (l := l) h
  rw [h1] at h0
  cases hh : hasFu (m.funcs.take k) m.funcs[k].name with
  | true => rw [hh, if_pos rfl] at h0; cases h0
  | false =>
    rw [hh, if_neg (by decide)] at h0 h2
    rw [h2, sigOf, if_pos h0]
    exact List.length_map ..
theorem one_sizes {m : Mo} {l : List Im} {k : Nat} (hz : ∀ i ∈ l, fcSmall i.face) (h : k < m.funcs.length) : ∀ t ∈ (oneSg m l k).params, t.size ≤ 281474976710656 := by
  obtain ⟨h1, h2⟩ := oneCode_at (l := l) h
  rw [h2]
  intro t ht
  split at ht
  · cases ht
  · unfold sigOf at ht
    split at ht
    · obtain ⟨p, _, rfl⟩ := List.mem_map.1 ht
      exact rhoR_le hz _ _
    · cases ht
theorem body_sizes {m : Mo} {l : List Im} {k : Nat} {fc : ByteArray → Fc} (hz : ∀ i ∈ l, fcSmall i.face) (h : k < m.funcs.length) : ∀ x, (exIs (bodyPs m l k) fc x).1.size ≤ 281474976710656 := by
  refine exIs_le (by omega) fun q hq => ?_
  rw [bodyPs_at h] at hq
  obtain ⟨z, hz', rfl⟩ := List.mem_map.1 hq
  exact one_sizes hz h _ (List.of_mem_zip hz').2

theorem fu_body {m : Mo} (h : moFault m = 0) : ∀ f ∈ m.funcs, exFault f.body 1 = 0 := by
  unfold moFault at h
  by_cases hc : 24 < wrap64 (wrap64 ((m.uses.length : Int) + m.types.length) + m.funcs.length)
  · rw [if_pos hc] at h; exact absurd h (by decide)
  · rw [if_neg hc] at h
    by_cases hu : firstBad useFault m.uses ≠ 0
    · rw [if_pos hu] at h; exact absurd h hu
    · rw [if_neg hu] at h
      by_cases ht : firstBad fdFault m.types ≠ 0
      · rw [if_pos ht] at h; exact absurd h ht
      · rw [if_neg ht] at h
        intro f hf
        obtain ⟨k, hk, rfl⟩ := List.getElem_of_mem hf
        have h2 := firstBad_all fuFault m.funcs h k hk
        unfold fuFault at h2
        by_cases h1 : identOk (m.funcs[k]).name = false ∨ noneOrIdent (m.funcs[k]).var = false
        · rw [if_pos h1] at h2; exact absurd h2 (by decide)
        · rw [if_neg h1] at h2
          by_cases h3 : 8 < (m.funcs[k]).params.length
          · rw [if_pos h3] at h2; exact absurd h2 (by decide)
          · rw [if_neg h3] at h2
            by_cases h4 : firstBad fdFault (m.funcs[k]).params ≠ 0
            · rw [if_pos h4] at h2; exact absurd h2 h4
            · rw [if_neg h4] at h2
              by_cases h5 : tyFault (m.funcs[k]).result 1 ≠ 0
              · rw [if_pos h5] at h2; exact absurd h2 h5
              · rw [if_neg h5] at h2; exact h2

set_option maxHeartbeats 1000000 in
theorem params_any (v u : Value) (w : World) (hv : ∃ a b c, v = .slice a b c) (hu : ∃ a b c, u = .slice a b c) :
    Calls Tryz.prog 236 #[v, u] w fun e w' => e = .returned (.func (.func 299) #[] #[.pointer (some ⟨w.heap.size, 0, none⟩), .pointer (some ⟨w.heap.size + 1, 0, none⟩)]) ∧ Below w.heap.size w w' ∧ w'.heap.size = w.heap.size + 2 ∧ w'.cell? ⟨w.heap.size, 0, none⟩ = some v ∧ w'.cell? ⟨w.heap.size + 1, 0, none⟩ = some u := by
  obtain ⟨a, b, c, rfl⟩ := hv
  obtain ⟨a2, b2, c2, rfl⟩ := hu
  go_enter Tryz.func236, Tryz.ntmps236
  go_wp2_with fail
  go_ret
  exact ⟨rfl, ((Below.refl _ _).alloc (Nat.le_refl _) _).alloc (by simp) _, by simp, by simp [go_sem], by simp [go_sem]⟩

set_option maxHeartbeats 1000000 in
theorem functions_any (u1 t1 f1 la o1 o4 : Option Addr) (u2 u3 t2 t3 f2 f3 ln lc o2 o3 o5 o6 : Nat) (w : World) :
    Calls Tryz.prog 237 #[.agg #[.slice u1 u2 u3, .slice t1 t2 t3, .slice f1 f2 f3], .slice la ln lc, .agg #[.slice o1 o2 o3, .slice o4 o5 o6]] w fun e w' => e = .returned (.func (.func 301) #[] #[.pointer (some ⟨w.heap.size + 2, 0, none⟩), .pointer (some ⟨w.heap.size, 0, none⟩), .pointer (some ⟨w.heap.size + 1, 0, none⟩)]) ∧ Below w.heap.size w w' ∧ w'.heap.size = w.heap.size + 3 ∧
      w'.cell? ⟨w.heap.size + 2, 0, none⟩ = some (.slice o1 o2 o3) ∧ w'.cell? ⟨w.heap.size + 2, 1, none⟩ = some (.slice o4 o5 o6) ∧ w'.cell? ⟨w.heap.size, 0, none⟩ = some (.slice u1 u2 u3) ∧ w'.cell? ⟨w.heap.size, 1, none⟩ = some (.slice t1 t2 t3) ∧ w'.cell? ⟨w.heap.size, 2, none⟩ = some (.slice f1 f2 f3) ∧ w'.cell? ⟨w.heap.size + 1, 0, none⟩ = some (.slice la ln lc) := by
  go_enter Tryz.func237, Tryz.ntmps237
  go_wp2_with fail
  go_ret
  exact ⟨rfl, (((Below.refl _ _).alloc (Nat.le_refl _) _).alloc (by simp) _).alloc (by simp; omega) _, by simp, by simp [go_sem], by simp [go_sem], by simp [go_sem], by simp [go_sem], by simp [go_sem], by simp [go_sem]⟩

/-- where the names of a body lie: in the box nB, with the boxes that their closures hold. -/
structure NamesAt (W5 W8 : World) (nB lB kB oB mB iB : Nat) (p q u t f lv o1 o2 : Value) : Prop where
  bel : Below W5.heap.size W5 W8
  n0 : W8.cell? ⟨nB, 0, none⟩ = some (.func (.func 299) #[] #[.pointer (some ⟨lB, 0, none⟩), .pointer (some ⟨kB, 0, none⟩)])
  n1 : W8.cell? ⟨nB, 1, none⟩ = some (.func (.func 301) #[] #[.pointer (some ⟨oB, 0, none⟩), .pointer (some ⟨mB, 0, none⟩), .pointer (some ⟨iB, 0, none⟩)])
  l0 : W8.cell? ⟨lB, 0, none⟩ = some p
  k0 : W8.cell? ⟨kB, 0, none⟩ = some q
  o0 : W8.cell? ⟨oB, 0, none⟩ = some o1
  o1 : W8.cell? ⟨oB, 1, none⟩ = some o2
  m0 : W8.cell? ⟨mB, 0, none⟩ = some u
  m1 : W8.cell? ⟨mB, 1, none⟩ = some t
  m2 : W8.cell? ⟨mB, 2, none⟩ = some f
  i0 : W8.cell? ⟨iB, 0, none⟩ = some lv

theorem names_expr (m : Mo) (l : List Im) (own : Fc) (ps : List Fd) (ks : List ByteArray) (x : Ex) {v p : Value} {W5 W8 : World} {nB lB kB oB mB iB : Nat} {u1 t1 f1 la o1 o4 xa : Option Addr} {u2 u3 t2 t3 f2 f3 ln lc o2 o3 o5 o6 xn xc : Nat}
    (hN : NamesAt W5 W8 nB lB kB oB mB iB p (.slice xa xn xc) (.slice u1 u2 u3) (.slice t1 t2 t3) (.slice f1 f2 f3) (.slice la ln lc) (.slice o1 o2 o3) (.slice o4 o5 o6))
    (hm : MoIs (fun b => b < W8.heap.size) W8 m (.agg #[.slice u1 u2 u3, .slice t1 t2 t3, .slice f1 f2 f3])) (hl : SlAt (fun b => b < W8.heap.size) (ImAt (fun b => b < W8.heap.size) W8) 4 l (.slice la ln lc)) (ho : FcIs (fun b => b < W8.heap.size) W8 own (.agg #[.slice o1 o2 o3, .slice o4 o5 o6])) (hps : SlAt (fun b => b < W8.heap.size) (FdAt (fun b => b < W8.heap.size) W8) 5 ps p) (hks : SlAt (fun b => b < W8.heap.size) (StrAt W8) 1 ks (.slice xa xn xc)) (hlen : ks.length = ps.length) (hx : ExIs (fun b => b < W8.heap.size) W8 x v)
    (hz : ∀ i ∈ l, fcSmall i.face) (hzo : fcSmall own) (hx0 : exFault x 1 = 0) (hSz : ∀ x, (exIs (knsOf ps ks) (faceOf m l own) x).1.size ≤ 281474976710656) :
    Calls Tryz.prog 238 #[.agg #[.func (.func 299) #[] #[.pointer (some ⟨lB, 0, none⟩), .pointer (some ⟨kB, 0, none⟩)], .func (.func 301) #[] #[.pointer (some ⟨oB, 0, none⟩), .pointer (some ⟨mB, 0, none⟩), .pointer (some ⟨iB, 0, none⟩)]], v] W8 (IsAns (knsOf ps ks) (faceOf m l own) x W8) := by
  have hK : ∀ W, Below W8.heap.size W8 W → Keeps (fun b => b < W8.heap.size) (fun b => b < W8.heap.size) W8 W := fun W hW => Keeps.below hW (fun _ h => h)
  have hC : ∀ W, Below W8.heap.size W8 W → ∀ (a : Addr) y, W8.cell? a = some y → W.cell? a = some y := fun W hW a y h => (hW.cell (World.block_lt_of_cell? _ _ h)).trans h
  have hL : ∀ W, Below W8.heap.size W8 W → ∀ b, b < W8.heap.size → b < W.heap.size := fun W hW b hb => Nat.lt_of_lt_of_le hb hW.size
  refine expr_any (fun b => b < W8.heap.size) (knsOf ps ks) (faceOf m l own) lB kB oB mB iB W8 (fun _ h => h) (fun W s hW => ?_) (fun W o s hW => ?_) hSz 10 1 (by omega) x v W8 (Below.refl _ _) hx0 hx
  · refine (par_any (fun b => b < W8.heap.size) ps ks s _ _ lB kB W (hL W hW) (fdSl_keep (hK W hW) hps) (strSl_keep (hK W hW) hks) hlen (hC W hW _ _ hN.l0) (hC W hW _ _ hN.k0)).mono ?_
    rintro e w' ⟨rfl, hb⟩
    exact ⟨rfl, hb⟩
  · exact fun_any (fun b => b < W8.heap.size) m l own o s u1 t1 f1 la o1 o4 u2 u3 t2 t3 f2 f3 ln lc o2 o3 o5 o6 oB mB iB W (hL W hW) (hm.keep (hK W hW)) (imSl_keep (hK W hW) hl) (ho.keep (hK W hW)) hz hzo (hC W hW _ _ hN.o0) (hC W hW _ _ hN.o1) (hC W hW _ _ hN.m0) (hC W hW _ _ hN.m1) (hC W hW _ _ hN.m2) (hC W hW _ _ hN.i0)

/-- what the region in which the names are made loads. -/
def OneS (F G M : Nat) (p q u t f o1 o2 : Value) (wr W : World) : Prop := Below wr.heap.size wr W ∧ W.cell? ⟨F, 2, none⟩ = some p ∧ W.cell? ⟨G, 1, none⟩ = some q ∧ W.cell? ⟨M, 0, none⟩ = some u ∧ W.cell? ⟨M, 1, none⟩ = some t ∧ W.cell? ⟨M, 2, none⟩ = some f ∧ W.cell? ⟨M + 1, 0, none⟩ = some o1 ∧ W.cell? ⟨M + 1, 1, none⟩ = some o2
theorem OneS.below {F G M : Nat} {p q u t f o1 o2 : Value} {wr W : World} (h : OneS F G M p q u t f o1 o2 wr W) : Below wr.heap.size wr W := h.1
theorem OneS.later {F G M : Nat} {p q u t f o1 o2 : Value} {wr W W' : World} (h : OneS F G M p q u t f o1 o2 wr W) (hb : Below W.heap.size W W') : OneS F G M p q u t f o1 o2 wr W' := by
  obtain ⟨h0, h1, h2, h3, h4, h5, h6, h7⟩ := h
  have hk : ∀ (a : Addr) v, W.cell? a = some v → W'.cell? a = some v := fun a v hv => (hb.cell (World.block_lt_of_cell? _ _ hv)).trans hv
  exact ⟨h0.trans (hb.mono h0.size), hk _ _ h1, hk _ _ h2, hk _ _ h3, hk _ _ h4, hk _ _ h5, hk _ _ h6, hk _ _ h7⟩
theorem OneS.box {F G M : Nat} {p q u t f o1 o2 : Value} {wr W : World} {x : Obj} (h : OneS F G M p q u t f o1 o2 wr W) : OneS F G M p q u t f o1 o2 wr (W.alloc x) := h.later ((Below.refl _ _).alloc (Nat.le_refl _) _)
theorem OneS.swap {F G M : Nat} {p q u t f o1 o2 : Value} {wr W : World} {x y : Obj} (h : OneS F G M p q u t f o1 o2 wr (W.alloc x)) (hl : wr.heap.size ≤ W.heap.size) (hF : F < wr.heap.size) (hG : G < wr.heap.size) (hM : M + 1 < wr.heap.size) : OneS F G M p q u t f o1 o2 wr (W.alloc y) := by
  obtain ⟨h0, h1, h2, h3, h4, h5, h6, h7⟩ := h
  have e : ∀ c, c < wr.heap.size → (W.alloc y).heap[c]? = (W.alloc x).heap[c]? := fun c hc => by
    rw [heap_alloc_old _ _ (by omega), heap_alloc_old _ _ (by omega)]
  have hM0 : M < wr.heap.size := by omega
  refine ⟨⟨h0.os, h0.tape, h0.output, by simp; omega, fun c hc => (e c hc).trans (h0.block c hc)⟩, ?_, ?_, ?_, ?_, ?_, ?_, ?_⟩
  · rw [World.cell?_of_block (e F hF)]; exact h1
  · rw [World.cell?_of_block (e G hG)]; exact h2
  · rw [World.cell?_of_block (e M hM0)]; exact h3
  · rw [World.cell?_of_block (e M hM0)]; exact h4
  · rw [World.cell?_of_block (e M hM0)]; exact h5
  · rw [World.cell?_of_block (e (M + 1) hM)]; exact h6
  · rw [World.cell?_of_block (e (M + 1) hM)]; exact h7
theorem OneS.sets {F G M g : Nat} {p q u t f o1 o2 a b : Value} {wr W : World} (h : OneS F G M p q u t f o1 o2 wr W) (hg : wr.heap.size ≤ g) (hF : F < wr.heap.size) (hG : G < wr.heap.size) (hM : M + 1 < wr.heap.size) : OneS F G M p q u t f o1 o2 wr ((W.setCell ⟨g, 0, none⟩ a).setCell ⟨g, 1, none⟩ b) := by
  obtain ⟨h0, h1, h2, h3, h4, h5, h6, h7⟩ := h
  have hk : ∀ (x : Addr) v, x.block < wr.heap.size → W.cell? x = some v → ((W.setCell ⟨g, 0, none⟩ a).setCell ⟨g, 1, none⟩ b).cell? x = some v := fun x v hx hv => by
    rw [World.cell?_setCell_far _ _ _ _ (by show g ≠ x.block; omega), World.cell?_setCell_far _ _ _ _ (by show g ≠ x.block; omega)]; exact hv
  exact ⟨(h0.setCell hg _).setCell hg _, hk _ _ hF h1, hk _ _ hG h2, hk _ _ (by show M < _; omega) h3, hk _ _ (by show M < _; omega) h4, hk _ _ (by show M < _; omega) h5, hk _ _ hM h6, hk _ _ hM h7⟩

set_option maxRecDepth 100000 in
set_option maxHeartbeats 8000000 in
theorem bodyOne_any (S : Nat → Prop) (m : Mo) (l : List Im) (own : Fc) (k : Nat) (vm vl vo : Value) (w : World) (hS : ∀ b, S b → b < w.heap.size) (hm : MoIs S w m vm) (hl : SlAt S (ImAt S w) 4 l vl) (ho : FcIs S w own vo) (hz : ∀ i ∈ l, fcSmall i.face) (hzo : fcSmall own) (hty : ∀ f ∈ m.types, tyFault f.is 1 = 0) (hn : m.types.length ≤ reachBytes) (hfu : ∀ f ∈ m.funcs, FuMay f) (hfb : ∀ f ∈ m.funcs, exFault f.body 1 = 0) (hk : k < m.funcs.length) :
    Calls Tryz.prog 161 #[vm, vl, vo, .int .i64 (k : Nat)] w fun e w' => e = .returned (.int .i64 (bodyCode m l own k)) ∧ Below w.heap.size w w' := by
  have HOne : Hid (∀ W, Below w.heap.size w W → Calls Tryz.prog 81 #[vm, vl, .int .i64 (k : Nat)] W (Signs W (oneSg m l k) (oneCode m l k))) := fun W hW =>
    one_any S m l k vm vl W (fun b hb => Nat.lt_of_lt_of_le (hS b hb) hW.size) (hm.keep (Keeps.below hW hS)) (imSl_keep (Keeps.below hW hS) hl) hz hty hn hfu hk
  have hm' := hm
  obtain ⟨vu, vty, vf, rfl, hu, hts, hf⟩ := hm'
  have hlen := hf.len
  unfold maxLen at hlen
  obtain ⟨u1, u2, u3, rfl⟩ := hu.slice
  obtain ⟨t1, t2, t3, rfl⟩ := hts.slice
  obtain ⟨f1, f3, rfl⟩ := hf.is
  obtain ⟨la, ln, lc, rfl⟩ := hl.slice
  obtain ⟨o1, o2, o3, o4, o5, o6, rfl⟩ : ∃ a b c d e f, vo = .agg #[.slice a b c, .slice d e f] := by
    obtain ⟨vt, vf, rfl, h1, h2⟩ := ho
    obtain ⟨a, b, c, rfl⟩ := h1.slice
    obtain ⟨d, e, f, rfl⟩ := h2.slice
    exact ⟨_, _, _, _, _, _, rfl⟩
  obtain ⟨_, b, off, rfl, hb, hat⟩ := hf.at hk
  obtain ⟨vp1, vp2, vp3, kd, fo, na, p1, p2, p3, ke, ne, fe, se, ve1, ve2, ve3, a0, a1, a2, a3, a4, a5, a6, a7, a8, a9, a10, a11, hsz0, hsz1, hps, hcs, hce⟩ := fu_cells hat
  have hbw := hS b hb
  obtain ⟨W2, hwe, hs2, hbel, m0, m1, m2, n0, n1⟩ : ∃ W2, (w.alloc (.cells #[.slice u1 u2 u3, .slice t1 t2 t3, .slice (some ⟨b, off, none⟩) m.funcs.length f3] 44)).alloc (.cells #[.slice o1 o2 o3, .slice o4 o5 o6] 30) = W2 ∧ W2.heap.size = w.heap.size + 2 ∧ Below w.heap.size w W2 ∧
      W2.cell? ⟨w.heap.size, 0, none⟩ = some (.slice u1 u2 u3) ∧ W2.cell? ⟨w.heap.size, 1, none⟩ = some (.slice t1 t2 t3) ∧ W2.cell? ⟨w.heap.size, 2, none⟩ = some (.slice (some ⟨b, off, none⟩) m.funcs.length f3) ∧ W2.cell? ⟨w.heap.size + 1, 0, none⟩ = some (.slice o1 o2 o3) ∧ W2.cell? ⟨w.heap.size + 1, 1, none⟩ = some (.slice o4 o5 o6) :=
    ⟨_, rfl, by simp, ((Below.refl _ _).alloc (Nat.le_refl _) _).alloc (by simp) _, by simp [go_sem], by simp [go_sem], by simp [go_sem], by simp [go_sem], by simp [go_sem]⟩
  have HWe := veil hwe
  have HBel := veil hbel
  have HOne2 := veil (HOne.out W2 hbel)
  have HBox : Hid (∀ W, Below W2.heap.size W2 W → (W.cell? ⟨w.heap.size, 0, none⟩ = some (.slice u1 u2 u3) ∧ W.cell? ⟨w.heap.size, 1, none⟩ = some (.slice t1 t2 t3) ∧ W.cell? ⟨w.heap.size, 2, none⟩ = some (.slice (some ⟨b, off, none⟩) m.funcs.length f3) ∧ W.cell? ⟨w.heap.size + 1, 0, none⟩ = some (.slice o1 o2 o3) ∧ W.cell? ⟨w.heap.size + 1, 1, none⟩ = some (.slice o4 o5 o6)) ∧ Below w.heap.size w W) := fun W h => by
    have l0 : w.heap.size < W2.heap.size := by omega
    have l1 : w.heap.size + 1 < W2.heap.size := by omega
    exact ⟨⟨(h.cell (p := ⟨w.heap.size, 0, none⟩) l0).trans m0, (h.cell (p := ⟨w.heap.size, 1, none⟩) l0).trans m1, (h.cell (p := ⟨w.heap.size, 2, none⟩) l0).trans m2, (h.cell (p := ⟨w.heap.size + 1, 0, none⟩) l1).trans n0, (h.cell (p := ⟨w.heap.size + 1, 1, none⟩) l1).trans n1⟩, hbel.trans (h.mono hbel.size)⟩
  have HA : Hid (∀ W, Below w.heap.size w W → W.cell? ⟨b, off + k * 12, none⟩ = some (.string m.funcs[k].name) ∧ W.cell? ⟨b, off + k * 12 + 1, none⟩ = some (.string m.funcs[k].var) ∧ W.cell? ⟨b, off + k * 12 + 2, none⟩ = some (.slice vp1 vp2 vp3) ∧ W.cell? ⟨b, off + k * 12 + 3, none⟩ = some (.int .i64 kd) ∧ W.cell? ⟨b, off + k * 12 + 4, none⟩ = some (.string fo) ∧ W.cell? ⟨b, off + k * 12 + 5, none⟩ = some (.string na) ∧ W.cell? ⟨b, off + k * 12 + 6, none⟩ = some (.slice p1 p2 p3) ∧ W.cell? ⟨b, off + k * 12 + 7, none⟩ = some (.int .i64 ke) ∧ W.cell? ⟨b, off + k * 12 + 8, none⟩ = some (.int .i64 ne) ∧ W.cell? ⟨b, off + k * 12 + 9, none⟩ = some (.string fe) ∧ W.cell? ⟨b, off + k * 12 + 10, none⟩ = some (.string se) ∧ W.cell? ⟨b, off + k * 12 + 11, none⟩ = some (.slice ve1 ve2 ve3)) := fun W h =>
    ⟨(h.cell (p := ⟨b, _, none⟩) hbw).trans a0, (h.cell (p := ⟨b, _, none⟩) hbw).trans a1, (h.cell (p := ⟨b, _, none⟩) hbw).trans a2, (h.cell (p := ⟨b, _, none⟩) hbw).trans a3, (h.cell (p := ⟨b, _, none⟩) hbw).trans a4, (h.cell (p := ⟨b, _, none⟩) hbw).trans a5, (h.cell (p := ⟨b, _, none⟩) hbw).trans a6, (h.cell (p := ⟨b, _, none⟩) hbw).trans a7, (h.cell (p := ⟨b, _, none⟩) hbw).trans a8, (h.cell (p := ⟨b, _, none⟩) hbw).trans a9, (h.cell (p := ⟨b, _, none⟩) hbw).trans a10, (h.cell (p := ⟨b, _, none⟩) hbw).trans a11⟩
  have HCode : Hid (bodyCode m l own k = if oneCode m l k = 0 then (if (bodyIs m l own k).2 = 0 then (if sEq (bodyIs m l own k).1 (oneSg m l k).result = true then 0 else 8) else (bodyIs m l own k).2) else oneCode m l k) := rfl
  have HLen := veil (one_len (l := l) hk)
  have HSz := veil (body_sizes (fc := faceOf m l own) hz hk)
  have HBodyF := veil (hfb _ (List.getElem_mem hk))
  have HIsAt := veil (bodyIs_at (l := l) (own := own) hk)
  have HPsAt := veil (bodyPs_at (l := l) hk)
  have HMem : Hid (∀ W, Below w.heap.size w W → MoIs (fun b => b < W.heap.size) W m (.agg #[.slice u1 u2 u3, .slice t1 t2 t3, .slice (some ⟨b, off, none⟩) m.funcs.length f3]) ∧ SlAt (fun b => b < W.heap.size) (ImAt (fun b => b < W.heap.size) W) 4 l (.slice la ln lc) ∧ FcIs (fun b => b < W.heap.size) W own (.agg #[.slice o1 o2 o3, .slice o4 o5 o6]) ∧ SlAt (fun b => b < W.heap.size) (FdAt (fun b => b < W.heap.size) W) 5 m.funcs[k].params (.slice vp1 vp2 vp3) ∧ ExIs (fun b => b < W.heap.size) W m.funcs[k].body (.agg #[.int .i64 ke, .int .i64 ne, .string fe, .string se, .slice ve1 ve2 ve3])) := fun W hW => by
    have hk : Keeps S (fun b => b < W.heap.size) w W := ⟨fun b hb => hW.block b (hS b hb), fun b hb => Nat.lt_of_lt_of_le (hS b hb) hW.size⟩
    exact ⟨hm.keep hk, imSl_keep hk hl, ho.keep hk, fdSl_keep hk hps, ⟨_, _, _, _, _, rfl, hce.keep hk⟩⟩
  have hk0 : (0 : Int) ≤ (k : Int) := by omega
  have hk1 : (k : Int) < (m.funcs.length : Int) := by omega
  clear HOne hwe hbel hs2 a0 a1 a2 a3 a4 a5 a6 a7 a8 a9 a10 a11 hu hts hf hat hps hcs hce hsz0 hsz1 hm hl ho hty hn hfu hfb
  generalize bodyCode m l own k = bc at *
  generalize oneCode m l k = oc at *
  unfold Signs at HOne2
  generalize hog : oneSg m l k = og at *
  generalize hsn : og.name = sn at *
  generalize hsr : og.result = sr at *
  have HSn := veil hsn
  have HSr := veil hsr
  clear hsn hsr hog
  go_enter Tryz.func161, Tryz.ntmps161
  go_wp2_with (first | (rw [HWe.out]; clear HWe) | fail)
  refine HOne2.out.mono ?_
  rintro e w3 ⟨xa, xn, xc, rfl, hsg, hb3⟩
  obtain ⟨W4, HW4, hb4, hs4, e0, e1, e2⟩ : ∃ W4, Hid (w3.alloc (.cells #[.string sn, .slice xa xn xc, .string sr] 65) = W4) ∧ Below w3.heap.size w3 W4 ∧ W4.heap.size = w3.heap.size + 1 ∧ W4.cell? ⟨w3.heap.size, 0, none⟩ = some (.string sn) ∧ W4.cell? ⟨w3.heap.size, 1, none⟩ = some (.slice xa xn xc) ∧ W4.cell? ⟨w3.heap.size, 2, none⟩ = some (.string sr) :=
    ⟨_, rfl, (Below.refl _ _).alloc (Nat.le_refl _) _, by simp, by simp [go_sem], by simp [go_sem], by simp [go_sem]⟩
  clear m0 m1 m2 n0 n1
  obtain ⟨⟨m0, m1, m2, n0, n1⟩, hbw4⟩ := HBox.out W4 (hb3.trans (hb4.mono hb3.size))
  obtain ⟨hgn, _, hgp⟩ := sgIs_slice (g := og) (by rw [HSn.out, HSr.out]; exact hsg)
  have HGp : Hid (∀ W, Below W4.heap.size W4 W → SlAt (fun b => b < W.heap.size) (StrAt W) 1 og.params (.slice xa xn xc)) := fun W hW => strSl_keep ⟨fun b hb => (hW.block b (Nat.lt_of_lt_of_le hb.2 hb4.size)).trans (hb4.block b hb.2), fun b hb => Nat.lt_of_lt_of_le (Nat.lt_of_lt_of_le hb.2 hb4.size) hW.size⟩ hgp
  have HGn := veil hgn
  have HB4 := veil hbw4
  have h34 : w3.heap.size < W4.heap.size := by omega
  have HBox4 : Hid (∀ W, Below W4.heap.size W4 W → (W.cell? ⟨w.heap.size, 0, none⟩ = some (.slice u1 u2 u3) ∧ W.cell? ⟨w.heap.size, 1, none⟩ = some (.slice t1 t2 t3) ∧ W.cell? ⟨w.heap.size, 2, none⟩ = some (.slice (some ⟨b, off, none⟩) m.funcs.length f3) ∧ W.cell? ⟨w.heap.size + 1, 0, none⟩ = some (.slice o1 o2 o3) ∧ W.cell? ⟨w.heap.size + 1, 1, none⟩ = some (.slice o4 o5 o6)) ∧ Below w.heap.size w W ∧ W.cell? ⟨w3.heap.size, 1, none⟩ = some (.slice xa xn xc) ∧ W.cell? ⟨w3.heap.size, 2, none⟩ = some (.string sr)) := fun W hW => by
    obtain ⟨h1, h2⟩ := HBox.out W ((hb3.trans (hb4.mono hb3.size)).trans (hW.mono (hb3.trans (hb4.mono hb3.size)).size))
    exact ⟨h1, h2, (hW.cell (p := ⟨w3.heap.size, 1, none⟩) h34).trans e1, (hW.cell (p := ⟨w3.heap.size, 2, none⟩) h34).trans e2⟩
  clear hsg hb3 hb4 hbw4 hgp HBox HOne2 hs4 hgn
  by_cases hc : oc = 0
  · subst hc
    have HLk := veil (HLen.out rfl)
    have HCode2 : Hid (bc = if (bodyIs m l own k).2 = 0 then (if sEq (bodyIs m l own k).1 sr = true then 0 else 8) else (bodyIs m l own k).2) := by show _ = _; rw [HCode.out, if_pos rfl]
    clear HLen HCode
    obtain ⟨d0, d1, d2, d3, d4, d5, d6, d7, d8, d9, d10, d11⟩ := HA.out _ HB4.out
    generalize m.funcs[k].name = fnm at *
    generalize m.funcs[k].var = fvr at *
    obtain ⟨W5, HW5, hb5, hs5, q2, q7, q8, q9, q10, q11⟩ : ∃ W5, Hid (W4.alloc (.cells #[.string fnm, .string fvr, .slice vp1 vp2 vp3, .int .i64 kd, .string fo, .string na, .slice p1 p2 p3, .int .i64 ke, .int .i64 ne, .string fe, .string se, .slice ve1 ve2 ve3] 89) = W5) ∧ Below W4.heap.size W4 W5 ∧ W5.heap.size = W4.heap.size + 1 ∧ W5.cell? ⟨W4.heap.size, 2, none⟩ = some (.slice vp1 vp2 vp3) ∧ W5.cell? ⟨W4.heap.size, 7, none⟩ = some (.int .i64 ke) ∧ W5.cell? ⟨W4.heap.size, 8, none⟩ = some (.int .i64 ne) ∧ W5.cell? ⟨W4.heap.size, 9, none⟩ = some (.string fe) ∧ W5.cell? ⟨W4.heap.size, 10, none⟩ = some (.string se) ∧ W5.cell? ⟨W4.heap.size, 11, none⟩ = some (.slice ve1 ve2 ve3) :=
      ⟨_, rfl, (Below.refl _ _).alloc (Nat.le_refl _) _, by simp, by simp [go_sem], by simp [go_sem], by simp [go_sem], by simp [go_sem], by simp [go_sem], by simp [go_sem]⟩
    have h45 : W4.heap.size < W5.heap.size := by omega
    have HP := veil (fun W => params_any (.slice vp1 vp2 vp3) (.slice xa xn xc) W ⟨_, _, _, rfl⟩ ⟨_, _, _, rfl⟩)
    have HQ := veil (fun W => functions_any u1 t1 (some ⟨b, off, none⟩) la o1 o4 u2 u3 t2 t3 m.funcs.length f3 ln lc o2 o3 o5 o6 W)
    go_wp2_with (first | (rw [HW4.out]; clear HW4; clear m0 m1 m2 n0 n1; obtain ⟨⟨m0, m1, m2, n0, n1⟩, _, e1, e2⟩ := HBox4.out _ (Below.refl _ _)) | (rw [HW5.out]; clear HW5 m0 m1 m2 n0 n1 e0 e1 e2 d0 d1 d2 d3 d4 d5 d6 d7 d8 d9 d10 d11; obtain ⟨⟨m0, m1, m2, n0, n1⟩, _, e1, e2⟩ := HBox4.out _ hb5) | fail)
    have HPa : Hid (∀ (W : World) (x y : Value), Calls Tryz.prog 236 #[.slice vp1 vp2 vp3, .slice xa xn xc] (W.alloc (.cells #[x, y] 276)).drew fun e w' => e = .returned (.func (.func 299) #[] #[.pointer (some ⟨W.heap.size + 1, 0, none⟩), .pointer (some ⟨W.heap.size + 2, 0, none⟩)]) ∧ Below (W.alloc (.cells #[x, y] 276)).drew.heap.size (W.alloc (.cells #[x, y] 276)).drew w' ∧ (w'.heap.size = W.heap.size + 3 ∧ w'.cell? ⟨W.heap.size + 1, 0, none⟩ = some (.slice vp1 vp2 vp3) ∧ w'.cell? ⟨W.heap.size + 2, 0, none⟩ = some (.slice xa xn xc)) ∧ w'.cell? ⟨W.heap.size, 0, none⟩ = some x ∧ w'.cell? ⟨W.heap.size, 1, none⟩ = some y ∧ w'.frozen? ⟨W.heap.size, 0, none⟩ = false ∧ w'.frozen? ⟨W.heap.size, 1, none⟩ = false) := fun W x y => by
      have hsz : (W.alloc (.cells #[x, y] 276)).drew.heap.size = W.heap.size + 1 := by show (W.alloc _).heap.size = _; simp
      refine (HP.out _).mono ?_
      rintro e w' ⟨rfl, hb, hs, h0, h1⟩
      rw [hsz] at hs h0 h1 ⊢
      exact ⟨rfl, by rw [← hsz]; exact hb, ⟨hs, h0, h1⟩, box_later (W := W) (t := 276) ⟨hb.os, hb.tape, hb.output, hb.size, hb.block⟩⟩
    have HQa : Hid (∀ (W : World) (x y : Value), Calls Tryz.prog 237 #[.agg #[.slice u1 u2 u3, .slice t1 t2 t3, .slice (some ⟨b, off, none⟩) m.funcs.length f3], .slice la ln lc, .agg #[.slice o1 o2 o3, .slice o4 o5 o6]] (W.alloc (.cells #[x, y] 276)) fun e w' => e = .returned (.func (.func 301) #[] #[.pointer (some ⟨W.heap.size + 1 + 2, 0, none⟩), .pointer (some ⟨W.heap.size + 1, 0, none⟩), .pointer (some ⟨W.heap.size + 1 + 1, 0, none⟩)]) ∧ Below (W.alloc (.cells #[x, y] 276)).heap.size (W.alloc (.cells #[x, y] 276)) w' ∧ (w'.heap.size = W.heap.size + 1 + 3 ∧
        w'.cell? ⟨W.heap.size + 1 + 2, 0, none⟩ = some (.slice o1 o2 o3) ∧ w'.cell? ⟨W.heap.size + 1 + 2, 1, none⟩ = some (.slice o4 o5 o6) ∧ w'.cell? ⟨W.heap.size + 1, 0, none⟩ = some (.slice u1 u2 u3) ∧ w'.cell? ⟨W.heap.size + 1, 1, none⟩ = some (.slice t1 t2 t3) ∧ w'.cell? ⟨W.heap.size + 1, 2, none⟩ = some (.slice (some ⟨b, off, none⟩) m.funcs.length f3) ∧ w'.cell? ⟨W.heap.size + 1 + 1, 0, none⟩ = some (.slice la ln lc)) ∧ w'.cell? ⟨W.heap.size, 0, none⟩ = some x ∧ w'.cell? ⟨W.heap.size, 1, none⟩ = some y ∧ w'.frozen? ⟨W.heap.size, 0, none⟩ = false ∧ w'.frozen? ⟨W.heap.size, 1, none⟩ = false) := fun W x y => by
      have hsz : (W.alloc (.cells #[x, y] 276)).heap.size = W.heap.size + 1 := by simp
      refine (HQ.out _).mono ?_
      rintro e w' ⟨rfl, hb, hs, h0, h1, h2, h3, h4, h5⟩
      rw [hsz] at hs h0 h1 h2 h3 h4 h5 ⊢
      exact ⟨rfl, by rw [← hsz]; exact hb, ⟨hs, h0, h1, h2, h3, h4, h5⟩, box_later (W := W) (t := 276) ⟨hb.os, hb.tape, hb.output, hb.size, hb.block⟩⟩
    have HK0 : Hid (OneS W4.heap.size w3.heap.size w.heap.size (.slice vp1 vp2 vp3) (.slice xa xn xc) (.slice u1 u2 u3) (.slice t1 t2 t3) (.slice (some ⟨b, off, none⟩) m.funcs.length f3) (.slice o1 o2 o3) (.slice o4 o5 o6) W5 W5.drew) := ⟨(Below.refl _ _).drew, q2, e1, m0, m1, m2, n0, n1⟩
    have HB5 := veil hb5
    have HB45 := veil (HB4.out.trans (hb5.mono HB4.out.size))
    clear hs5 hb5
    have h3w : w3.heap.size < W5.heap.size := by omega
    have hwm : w.heap.size + 1 < W5.heap.size := World.block_lt_of_cell? _ _ n0
    go_region_held3 (fun W => Below W5.heap.size W5 W ∧ W.cell? ⟨W4.heap.size, 2, none⟩ = some (.slice vp1 vp2 vp3) ∧ W.cell? ⟨w3.heap.size, 1, none⟩ = some (.slice xa xn xc) ∧ W.cell? ⟨w.heap.size, 0, none⟩ = some (.slice u1 u2 u3) ∧ W.cell? ⟨w.heap.size, 1, none⟩ = some (.slice t1 t2 t3) ∧ W.cell? ⟨w.heap.size, 2, none⟩ = some (.slice (some ⟨b, off, none⟩) m.funcs.length f3) ∧ W.cell? ⟨w.heap.size + 1, 0, none⟩ = some (.slice o1 o2 o3) ∧ W.cell? ⟨w.heap.size + 1, 1, none⟩ = some (.slice o4 o5 o6)) (first | exact HK0.out | exact OneS.later (by assumption) (by assumption) | exact OneS.box (by assumption) | exact OneS.swap (by assumption) (by assumption) (by assumption) (by assumption) (by assumption) | exact OneS.sets (by assumption) (by first | exact Nat.le_refl _ | assumption) (by assumption) (by assumption) (by assumption))
      (first
        | (go_at_call 236; refine (HPa.out _ _ _).mono ?_; rintro e w6 ⟨rfl, hb6, hx6, g0, g1, g2, g3⟩; have hl6 : W5.heap.size ≤ w6.heap.size := Nat.le_trans (OneS.below (by assumption)).size hb6.size; have HX := veil hx6; clear hx6)
        | (go_at_call 236; refine (HP.out _).mono ?_; rintro e w6 ⟨rfl, hb6, hx6⟩; have hl6 : W5.heap.size ≤ w6.heap.size := Nat.le_trans (OneS.below (by assumption)).size hb6.size; have HX := veil hx6; clear hx6)
        | (go_at_call 237; refine (HQa.out _ _ _).mono ?_; rintro e w7 ⟨rfl, hb7, hy7, g4, g5, g6, g7⟩; have hl7 : W5.heap.size ≤ w7.heap.size := Nat.le_trans (OneS.below (by assumption)).size hb7.size; have HY := veil hy7; clear hy7)
        | (go_at_call 237; refine (HQ.out _).mono ?_; rintro e w7 ⟨rfl, hb7, hy7⟩; have hl7 : W5.heap.size ≤ w7.heap.size := Nat.le_trans (OneS.below (by assumption)).size hb7.size; have HY := veil hy7; clear hy7; (try have g4 := (hb7.cell (World.block_lt_of_cell? _ _ g0)).trans g0); (try have g5 := (hb7.cell (World.block_lt_of_cell? _ _ g1)).trans g1); (try have g6 := (hb7.frozen (World.block_lt_of_cell? _ _ g0)).trans g2); (try have g7 := (hb7.frozen (World.block_lt_of_cell? _ _ g1)).trans g3)))
    · rename_i hHeld
      have hbW := hHeld.1
      clear hHeld
      obtain ⟨W8, HW8, hN⟩ : ∃ W8, Hid (w7.alloc (.cells #[.func (.func 299) #[] #[.pointer (some ⟨W5.heap.size, 0, none⟩), .pointer (some ⟨W5.heap.size + 1, 0, none⟩)], .func (.func 301) #[] #[.pointer (some ⟨w6.heap.size + 2, 0, none⟩), .pointer (some ⟨w6.heap.size, 0, none⟩), .pointer (some ⟨w6.heap.size + 1, 0, none⟩)]] 276) = W8) ∧ NamesAt W5 W8 (w7.heap.size) (W5.heap.size) (W5.heap.size + 1) (w6.heap.size + 2) (w6.heap.size) (w6.heap.size + 1) (.slice vp1 vp2 vp3) (.slice xa xn xc) (.slice u1 u2 u3) (.slice t1 t2 t3) (.slice (some ⟨b, off, none⟩) m.funcs.length f3) (.slice la ln lc) (.slice o1 o2 o3) (.slice o4 o5 o6) := by
        obtain ⟨hx0, x0, x1⟩ := HX.out
        obtain ⟨hy0, y0, y1, y2, y3, y4, y5⟩ := HY.out
        have hk7 : ∀ (a : Addr) y, w7.cell? a = some y → (w7.alloc (.cells #[.func (.func 299) #[] #[.pointer (some ⟨W5.heap.size, 0, none⟩), .pointer (some ⟨W5.heap.size + 1, 0, none⟩)], .func (.func 301) #[] #[.pointer (some ⟨w6.heap.size + 2, 0, none⟩), .pointer (some ⟨w6.heap.size, 0, none⟩), .pointer (some ⟨w6.heap.size + 1, 0, none⟩)]] 276)).cell? a = some y := fun a y h => (((Below.refl w7.heap.size w7).alloc (Nat.le_refl _) _).cell (World.block_lt_of_cell? _ _ h)).trans h
        have hk6 : ∀ (a : Addr) y, w6.cell? a = some y → (w7.alloc (.cells #[.func (.func 299) #[] #[.pointer (some ⟨W5.heap.size, 0, none⟩), .pointer (some ⟨W5.heap.size + 1, 0, none⟩)], .func (.func 301) #[] #[.pointer (some ⟨w6.heap.size + 2, 0, none⟩), .pointer (some ⟨w6.heap.size, 0, none⟩), .pointer (some ⟨w6.heap.size + 1, 0, none⟩)]] 276)).cell? a = some y := fun a y h => hk7 _ _ ((hb7.cell (World.block_lt_of_cell? _ _ h)).trans h)
        exact ⟨_, rfl, hbW, by simp [go_sem], by simp [go_sem], hk6 _ _ x0, hk6 _ _ x1, hk7 _ _ y0, hk7 _ _ y1, hk7 _ _ y2, hk7 _ _ y3, hk7 _ _ y4, hk7 _ _ y5⟩
      have HEx : Hid (Calls Tryz.prog 238 #[.agg #[.func (.func 299) #[] #[.pointer (some ⟨W5.heap.size, 0, none⟩), .pointer (some ⟨W5.heap.size + 1, 0, none⟩)], .func (.func 301) #[] #[.pointer (some ⟨w6.heap.size + 2, 0, none⟩), .pointer (some ⟨w6.heap.size, 0, none⟩), .pointer (some ⟨w6.heap.size + 1, 0, none⟩)]], .agg #[.int .i64 ke, .int .i64 ne, .string fe, .string se, .slice ve1 ve2 ve3]] W8 (IsAns (bodyPs m l k) (faceOf m l own) m.funcs[k].body W8)) := by
        have h8 := HB45.out.trans (hN.bel.mono HB45.out.size)
        obtain ⟨z1, z2, z3, z4, z5⟩ := HMem.out W8 h8
        rw [HPsAt.out]
        exact names_expr m l own m.funcs[k].params og.params m.funcs[k].body hN z1 z2 z3 z4 (HGp.out W8 (HB5.out.trans (hN.bel.mono HB5.out.size))) HLk.out z5 hz hzo HBodyF.out (by rw [← HPsAt.out]; exact HSz.out)
      have HB8 := veil (HB45.out.trans (hN.bel.mono HB45.out.size))
      have n0 := hN.n0
      have n1 := hN.n1
      have r7 := (hN.bel.cell (p := ⟨W4.heap.size, 7, none⟩) h45).trans q7
      have r8 := (hN.bel.cell (p := ⟨W4.heap.size, 8, none⟩) h45).trans q8
      have r9 := (hN.bel.cell (p := ⟨W4.heap.size, 9, none⟩) h45).trans q9
      have r10 := (hN.bel.cell (p := ⟨W4.heap.size, 10, none⟩) h45).trans q10
      have r11 := (hN.bel.cell (p := ⟨W4.heap.size, 11, none⟩) h45).trans q11
      have r2 := (hN.bel.cell (p := ⟨w3.heap.size, 2, none⟩) h3w).trans e2
      have hl8 : w3.heap.size < W8.heap.size := Nat.lt_of_lt_of_le h3w hN.bel.size
      rw [HW8.out]
      clear HW8 hN HX HY HPa HQa HP HQ HK0 q2 q7 q8 q9 q10 q11 e1 e2 m0 m1 m2 HGp HMem HA HSz HBox4 HLk HPsAt HBodyF h45 h3w hwm HB45 HB5
      unfold IsAns at HEx
      rw [← HIsAt.out] at HEx
      clear HIsAt
      generalize bodyIs m l own k = r at *
      obtain ⟨rs, rc⟩ := r
      go_wp2_with fail
      refine HEx.out.mono ?_
      rintro e w9 ⟨rfl, hb9⟩
      have x2 := (hb9.cell (p := ⟨w3.heap.size, 2, none⟩) hl8).trans r2
      have HB9 := veil (HB8.out.trans (hb9.mono HB8.out.size))
      clear hb9 HEx n0 n1 r7 r8 r9 r10 r11 r2
      by_cases hrc : rc = 0
      · subst hrc
        cases hq : (rs.toList == sr.toList) with
        | true =>
          have hq' : (rs.toList != sr.toList) = false := by simp [bne, hq]
          have HR : Hid (bc = 0) := by
            show _ = _
            rw [HCode2.out]
            simp [sEq, hq]
          clear HCode2
          go_wp2_with fail
          go_ret
          exact ⟨by rw [HR.out]; rfl, HB9.out⟩
        | false =>
          have hq' : (rs.toList != sr.toList) = true := by simp [bne, hq]
          have HR : Hid (bc = 8) := by
            show _ = _
            rw [HCode2.out]
            simp [sEq, hq]
          clear HCode2
          go_wp2_with fail
          go_ret
          exact ⟨by rw [HR.out]; rfl, HB9.out⟩
      · have hrc' : (rc != 0) = true := by simp [hrc]
        have HR : Hid (bc = rc) := by show _ = _; rw [HCode2.out]; exact if_neg hrc
        clear HCode2 hrc
        go_wp2_with fail
        go_ret
        exact ⟨by rw [HR.out]; rfl, HB9.out⟩
    · rename_i hHeld
      have hbW := hHeld.1
      clear hHeld
      obtain ⟨W8, HW8, hN⟩ : ∃ W8, Hid (((w7.setCell ⟨w6.heap.size, 0, none⟩ (.func (.func 299) #[] #[.pointer (some ⟨W5.heap.size, 0, none⟩), .pointer (some ⟨W5.heap.size + 1, 0, none⟩)])).setCell ⟨w6.heap.size, 1, none⟩ (.func (.func 301) #[] #[.pointer (some ⟨w6.heap.size + 1 + 2, 0, none⟩), .pointer (some ⟨w6.heap.size + 1, 0, none⟩), .pointer (some ⟨w6.heap.size + 1 + 1, 0, none⟩)])) = W8) ∧ NamesAt W5 W8 (w6.heap.size) (W5.heap.size) (W5.heap.size + 1) (w6.heap.size + 1 + 2) (w6.heap.size + 1) (w6.heap.size + 1 + 1) (.slice vp1 vp2 vp3) (.slice xa xn xc) (.slice u1 u2 u3) (.slice t1 t2 t3) (.slice (some ⟨b, off, none⟩) m.funcs.length f3) (.slice la ln lc) (.slice o1 o2 o3) (.slice o4 o5 o6) := by
        obtain ⟨hx0, x0, x1⟩ := HX.out
        obtain ⟨hy0, y0, y1, y2, y3, y4, y5⟩ := HY.out
        have hk7 : ∀ (a : Addr) y, a.block ≠ w6.heap.size → w7.cell? a = some y → ((w7.setCell ⟨w6.heap.size, 0, none⟩ (.func (.func 299) #[] #[.pointer (some ⟨W5.heap.size, 0, none⟩), .pointer (some ⟨W5.heap.size + 1, 0, none⟩)])).setCell ⟨w6.heap.size, 1, none⟩ (.func (.func 301) #[] #[.pointer (some ⟨w6.heap.size + 1 + 2, 0, none⟩), .pointer (some ⟨w6.heap.size + 1, 0, none⟩), .pointer (some ⟨w6.heap.size + 1 + 1, 0, none⟩)])).cell? a = some y := fun a y hne h => by
          rw [World.cell?_setCell_far _ _ _ _ (fun e => hne e.symm), World.cell?_setCell_far _ _ _ _ (fun e => hne e.symm)]; exact h
        have hd : W5.drew.heap.size = W5.heap.size := rfl
        have hk6 : ∀ (a : Addr) y, a.block ≠ w6.heap.size → w6.cell? a = some y → ((w7.setCell ⟨w6.heap.size, 0, none⟩ (.func (.func 299) #[] #[.pointer (some ⟨W5.heap.size, 0, none⟩), .pointer (some ⟨W5.heap.size + 1, 0, none⟩)])).setCell ⟨w6.heap.size, 1, none⟩ (.func (.func 301) #[] #[.pointer (some ⟨w6.heap.size + 1 + 2, 0, none⟩), .pointer (some ⟨w6.heap.size + 1, 0, none⟩), .pointer (some ⟨w6.heap.size + 1 + 1, 0, none⟩)])).cell? a = some y := fun a y hne h => by
          have hl := World.block_lt_of_cell? _ _ h
          refine hk7 _ _ hne ((hb7.cell (by simp; omega)).trans ?_)
          exact (((Below.refl w6.heap.size w6).alloc (Nat.le_refl _) _).cell hl).trans h
        have hn01 : (⟨w6.heap.size, 0, none⟩ : Addr) ≠ ⟨w6.heap.size, 1, none⟩ := fun e => absurd (show (0 : Nat) = 1 from congrArg Addr.off e) (by decide)
        have hn10 : (⟨w6.heap.size, 1, none⟩ : Addr) ≠ ⟨w6.heap.size, 0, none⟩ := fun e => absurd (show (1 : Nat) = 0 from congrArg Addr.off e) (by decide)
        refine ⟨_, rfl, hbW, ?_, ?_, hk6 _ _ (by dsimp only; omega) x0, hk6 _ _ (by dsimp only; omega) x1, hk7 _ _ (by dsimp only; omega) y0, hk7 _ _ (by dsimp only; omega) y1, hk7 _ _ (by dsimp only; omega) y2, hk7 _ _ (by dsimp only; omega) y3, hk7 _ _ (by dsimp only; omega) y4, hk7 _ _ (by dsimp only; omega) y5⟩
        · rw [World.cell?_setCell_other _ _ _ _ hn10]
          exact World.cell?_setCell_same _ _ _ g4
        · exact World.cell?_setCell_same _ _ _ ((World.cell?_setCell_other _ _ _ _ hn01).trans g5)
      have HEx : Hid (Calls Tryz.prog 238 #[.agg #[.func (.func 299) #[] #[.pointer (some ⟨W5.heap.size, 0, none⟩), .pointer (some ⟨W5.heap.size + 1, 0, none⟩)], .func (.func 301) #[] #[.pointer (some ⟨w6.heap.size + 1 + 2, 0, none⟩), .pointer (some ⟨w6.heap.size + 1, 0, none⟩), .pointer (some ⟨w6.heap.size + 1 + 1, 0, none⟩)]], .agg #[.int .i64 ke, .int .i64 ne, .string fe, .string se, .slice ve1 ve2 ve3]] W8 (IsAns (bodyPs m l k) (faceOf m l own) m.funcs[k].body W8)) := by
        have h8 := HB45.out.trans (hN.bel.mono HB45.out.size)
        obtain ⟨z1, z2, z3, z4, z5⟩ := HMem.out W8 h8
        rw [HPsAt.out]
        exact names_expr m l own m.funcs[k].params og.params m.funcs[k].body hN z1 z2 z3 z4 (HGp.out W8 (HB5.out.trans (hN.bel.mono HB5.out.size))) HLk.out z5 hz hzo HBodyF.out (by rw [← HPsAt.out]; exact HSz.out)
      have HB8 := veil (HB45.out.trans (hN.bel.mono HB45.out.size))
      have n0 := hN.n0
      have n1 := hN.n1
      have r7 := (hN.bel.cell (p := ⟨W4.heap.size, 7, none⟩) h45).trans q7
      have r8 := (hN.bel.cell (p := ⟨W4.heap.size, 8, none⟩) h45).trans q8
      have r9 := (hN.bel.cell (p := ⟨W4.heap.size, 9, none⟩) h45).trans q9
      have r10 := (hN.bel.cell (p := ⟨W4.heap.size, 10, none⟩) h45).trans q10
      have r11 := (hN.bel.cell (p := ⟨W4.heap.size, 11, none⟩) h45).trans q11
      have r2 := (hN.bel.cell (p := ⟨w3.heap.size, 2, none⟩) h3w).trans e2
      have hl8 : w3.heap.size < W8.heap.size := Nat.lt_of_lt_of_le h3w hN.bel.size
      rw [HW8.out]
      clear HW8 hN HX HY HPa HQa HP HQ HK0 q2 q7 q8 q9 q10 q11 e1 e2 m0 m1 m2 HGp HMem HA HSz HBox4 HLk HPsAt HBodyF h45 h3w hwm HB45 HB5
      unfold IsAns at HEx
      rw [← HIsAt.out] at HEx
      clear HIsAt
      generalize bodyIs m l own k = r at *
      obtain ⟨rs, rc⟩ := r
      go_wp2_with fail
      refine HEx.out.mono ?_
      rintro e w9 ⟨rfl, hb9⟩
      have x2 := (hb9.cell (p := ⟨w3.heap.size, 2, none⟩) hl8).trans r2
      have HB9 := veil (HB8.out.trans (hb9.mono HB8.out.size))
      clear hb9 HEx n0 n1 r7 r8 r9 r10 r11 r2
      by_cases hrc : rc = 0
      · subst hrc
        cases hq : (rs.toList == sr.toList) with
        | true =>
          have hq' : (rs.toList != sr.toList) = false := by simp [bne, hq]
          have HR : Hid (bc = 0) := by
            show _ = _
            rw [HCode2.out]
            simp [sEq, hq]
          clear HCode2
          go_wp2_with fail
          go_ret
          exact ⟨by rw [HR.out]; rfl, HB9.out⟩
        | false =>
          have hq' : (rs.toList != sr.toList) = true := by simp [bne, hq]
          have HR : Hid (bc = 8) := by
            show _ = _
            rw [HCode2.out]
            simp [sEq, hq]
          clear HCode2
          go_wp2_with fail
          go_ret
          exact ⟨by rw [HR.out]; rfl, HB9.out⟩
      · have hrc' : (rc != 0) = true := by simp [hrc]
        have HR : Hid (bc = rc) := by show _ = _; rw [HCode2.out]; exact if_neg hrc
        clear HCode2 hrc
        go_wp2_with fail
        go_ret
        exact ⟨by rw [HR.out]; rfl, HB9.out⟩
    · rename_i hHeld
      have hbW := hHeld.1
      clear hHeld
      obtain ⟨W8, HW8, hN⟩ : ∃ W8, Hid (((w7.setCell ⟨W5.heap.size, 0, none⟩ (.func (.func 299) #[] #[.pointer (some ⟨W5.heap.size + 1, 0, none⟩), .pointer (some ⟨W5.heap.size + 2, 0, none⟩)])).setCell ⟨W5.heap.size, 1, none⟩ (.func (.func 301) #[] #[.pointer (some ⟨w6.heap.size + 2, 0, none⟩), .pointer (some ⟨w6.heap.size, 0, none⟩), .pointer (some ⟨w6.heap.size + 1, 0, none⟩)])) = W8) ∧ NamesAt W5 W8 (W5.heap.size) (W5.heap.size + 1) (W5.heap.size + 2) (w6.heap.size + 2) (w6.heap.size) (w6.heap.size + 1) (.slice vp1 vp2 vp3) (.slice xa xn xc) (.slice u1 u2 u3) (.slice t1 t2 t3) (.slice (some ⟨b, off, none⟩) m.funcs.length f3) (.slice la ln lc) (.slice o1 o2 o3) (.slice o4 o5 o6) := by
        obtain ⟨hx0, x0, x1⟩ := HX.out
        obtain ⟨hy0, y0, y1, y2, y3, y4, y5⟩ := HY.out
        have hk7 : ∀ (a : Addr) y, a.block ≠ W5.heap.size → w7.cell? a = some y → ((w7.setCell ⟨W5.heap.size, 0, none⟩ (.func (.func 299) #[] #[.pointer (some ⟨W5.heap.size + 1, 0, none⟩), .pointer (some ⟨W5.heap.size + 2, 0, none⟩)])).setCell ⟨W5.heap.size, 1, none⟩ (.func (.func 301) #[] #[.pointer (some ⟨w6.heap.size + 2, 0, none⟩), .pointer (some ⟨w6.heap.size, 0, none⟩), .pointer (some ⟨w6.heap.size + 1, 0, none⟩)])).cell? a = some y := fun a y hne h => by
          rw [World.cell?_setCell_far _ _ _ _ (fun e => hne e.symm), World.cell?_setCell_far _ _ _ _ (fun e => hne e.symm)]; exact h
        have hk6 : ∀ (a : Addr) y, a.block ≠ W5.heap.size → w6.cell? a = some y → ((w7.setCell ⟨W5.heap.size, 0, none⟩ (.func (.func 299) #[] #[.pointer (some ⟨W5.heap.size + 1, 0, none⟩), .pointer (some ⟨W5.heap.size + 2, 0, none⟩)])).setCell ⟨W5.heap.size, 1, none⟩ (.func (.func 301) #[] #[.pointer (some ⟨w6.heap.size + 2, 0, none⟩), .pointer (some ⟨w6.heap.size, 0, none⟩), .pointer (some ⟨w6.heap.size + 1, 0, none⟩)])).cell? a = some y := fun a y hne h =>
          hk7 _ _ hne ((hb7.cell (World.block_lt_of_cell? _ _ h)).trans h)
        have hn01 : (⟨W5.heap.size, 0, none⟩ : Addr) ≠ ⟨W5.heap.size, 1, none⟩ := fun e => absurd (show (0 : Nat) = 1 from congrArg Addr.off e) (by decide)
        have hn10 : (⟨W5.heap.size, 1, none⟩ : Addr) ≠ ⟨W5.heap.size, 0, none⟩ := fun e => absurd (show (1 : Nat) = 0 from congrArg Addr.off e) (by decide)
        refine ⟨_, rfl, hbW, ?_, ?_, hk6 _ _ (by dsimp only; omega) x0, hk6 _ _ (by dsimp only; omega) x1, hk7 _ _ (by dsimp only; omega) y0, hk7 _ _ (by dsimp only; omega) y1, hk7 _ _ (by dsimp only; omega) y2, hk7 _ _ (by dsimp only; omega) y3, hk7 _ _ (by dsimp only; omega) y4, hk7 _ _ (by dsimp only; omega) y5⟩
        · rw [World.cell?_setCell_other _ _ _ _ hn10]
          exact World.cell?_setCell_same _ _ _ g4
        · exact World.cell?_setCell_same _ _ _ ((World.cell?_setCell_other _ _ _ _ hn01).trans g5)
      have HEx : Hid (Calls Tryz.prog 238 #[.agg #[.func (.func 299) #[] #[.pointer (some ⟨W5.heap.size + 1, 0, none⟩), .pointer (some ⟨W5.heap.size + 2, 0, none⟩)], .func (.func 301) #[] #[.pointer (some ⟨w6.heap.size + 2, 0, none⟩), .pointer (some ⟨w6.heap.size, 0, none⟩), .pointer (some ⟨w6.heap.size + 1, 0, none⟩)]], .agg #[.int .i64 ke, .int .i64 ne, .string fe, .string se, .slice ve1 ve2 ve3]] W8 (IsAns (bodyPs m l k) (faceOf m l own) m.funcs[k].body W8)) := by
        have h8 := HB45.out.trans (hN.bel.mono HB45.out.size)
        obtain ⟨z1, z2, z3, z4, z5⟩ := HMem.out W8 h8
        rw [HPsAt.out]
        exact names_expr m l own m.funcs[k].params og.params m.funcs[k].body hN z1 z2 z3 z4 (HGp.out W8 (HB5.out.trans (hN.bel.mono HB5.out.size))) HLk.out z5 hz hzo HBodyF.out (by rw [← HPsAt.out]; exact HSz.out)
      have HB8 := veil (HB45.out.trans (hN.bel.mono HB45.out.size))
      have n0 := hN.n0
      have n1 := hN.n1
      have r7 := (hN.bel.cell (p := ⟨W4.heap.size, 7, none⟩) h45).trans q7
      have r8 := (hN.bel.cell (p := ⟨W4.heap.size, 8, none⟩) h45).trans q8
      have r9 := (hN.bel.cell (p := ⟨W4.heap.size, 9, none⟩) h45).trans q9
      have r10 := (hN.bel.cell (p := ⟨W4.heap.size, 10, none⟩) h45).trans q10
      have r11 := (hN.bel.cell (p := ⟨W4.heap.size, 11, none⟩) h45).trans q11
      have r2 := (hN.bel.cell (p := ⟨w3.heap.size, 2, none⟩) h3w).trans e2
      have hl8 : w3.heap.size < W8.heap.size := Nat.lt_of_lt_of_le h3w hN.bel.size
      rw [HW8.out]
      clear HW8 hN HX HY HPa HQa HP HQ HK0 q2 q7 q8 q9 q10 q11 e1 e2 m0 m1 m2 HGp HMem HA HSz HBox4 HLk HPsAt HBodyF h45 h3w hwm HB45 HB5
      unfold IsAns at HEx
      rw [← HIsAt.out] at HEx
      clear HIsAt
      generalize bodyIs m l own k = r at *
      obtain ⟨rs, rc⟩ := r
      go_wp2_with fail
      refine HEx.out.mono ?_
      rintro e w9 ⟨rfl, hb9⟩
      have x2 := (hb9.cell (p := ⟨w3.heap.size, 2, none⟩) hl8).trans r2
      have HB9 := veil (HB8.out.trans (hb9.mono HB8.out.size))
      clear hb9 HEx n0 n1 r7 r8 r9 r10 r11 r2
      by_cases hrc : rc = 0
      · subst hrc
        cases hq : (rs.toList == sr.toList) with
        | true =>
          have hq' : (rs.toList != sr.toList) = false := by simp [bne, hq]
          have HR : Hid (bc = 0) := by
            show _ = _
            rw [HCode2.out]
            simp [sEq, hq]
          clear HCode2
          go_wp2_with fail
          go_ret
          exact ⟨by rw [HR.out]; rfl, HB9.out⟩
        | false =>
          have hq' : (rs.toList != sr.toList) = true := by simp [bne, hq]
          have HR : Hid (bc = 8) := by
            show _ = _
            rw [HCode2.out]
            simp [sEq, hq]
          clear HCode2
          go_wp2_with fail
          go_ret
          exact ⟨by rw [HR.out]; rfl, HB9.out⟩
      · have hrc' : (rc != 0) = true := by simp [hrc]
        have HR : Hid (bc = rc) := by show _ = _; rw [HCode2.out]; exact if_neg hrc
        clear HCode2 hrc
        go_wp2_with fail
        go_ret
        exact ⟨by rw [HR.out]; rfl, HB9.out⟩
  · have hc' : (oc != 0) = true := by simp [hc]
    have HR : Hid (bc = oc) := by show _ = _; rw [HCode.out, if_neg hc]
    clear hc HCode
    go_wp2_with (first | (rw [HW4.out]; clear HW4) | fail)
    go_ret
    exact ⟨by rw [HR.out]; rfl, HB4.out⟩

end Go.Proofs.YtagbaimfigljiaaGreatDoor
