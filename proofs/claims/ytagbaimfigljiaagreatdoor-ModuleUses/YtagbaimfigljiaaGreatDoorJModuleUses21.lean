import Derived.Test.YtagbaimfigljiaaGreatDoorJModuleUses20
import Derived.Test.YtagbaimfigljiaaGreatDoorJModuleUses5
import Derived.Test.YtagbaimfigljiaaGreatDoorJModuleUses12
namespace Go.Proofs.YtagbaimfigljiaaGreatDoor
open Go.RowKit
set_option maxRecDepth 100000

theorem infoEx : (Tryz.prog.info? 87).map (fun i => (i.zero, i.size, i.bytes)) = some (some (.agg #[.int .i64 0, .int .i64 0, .string ⟨#[]⟩, .string ⟨#[]⟩, .slice none 0 0]), 5, 72) := by kernel_rfl

/-- the elements of a row, read as they lie. -/
def Items {α : Type} (C : (Nat → Prop) → World → α → List Value → Prop) (c base : Nat) (xs : List α) (v : Value) (ys : List Value) (W : World) : Prop :=
  ∀ j (hj : j < xs.length), ∃ cs, cs.length = c ∧ (∀ t, t < c → ys[j * c + t]? = cs[t]?) ∧ C (Parts base v W) W xs[j] cs

theorem Items.keep {α : Type} {C : (Nat → Prop) → World → α → List Value → Prop} (hC : ∀ {S S' : Nat → Prop} {W W' : World} {x : α} {cs : List Value}, Keeps S S' W W' → C S W x cs → C S' W' x cs) {c base : Nat} {xs : List α} {v : Value} {ys : List Value} {W W' : World}
    (h : Items C c base xs v ys W) (hs : W.heap.size ≤ W'.heap.size) (hk : ∀ b, base ≤ b → b < W.heap.size → v.ownBlock ≠ some b → W'.heap[b]? = W.heap[b]?) : Items C c base xs v ys W' := by
  intro j hj
  obtain ⟨cs, h1, h2, h3⟩ := h j hj
  exact ⟨cs, h1, h2, hC ⟨fun b hb => hk b hb.1 hb.2.1 hb.2.2, fun b hb => ⟨hb.1, Nat.lt_of_lt_of_le hb.2.1 hs, hb.2.2⟩⟩ h3⟩

theorem Items.push {α : Type} {C : (Nat → Prop) → World → α → List Value → Prop} (hC : ∀ {S S' : Nat → Prop} {W W' : World} {x : α} {cs : List Value}, Keeps S S' W W' → C S W x cs → C S' W' x cs) {c base s0 : Nat} {xs : List α} {x : α} {v v' : Value} {ys cs : List Value} {W W' : World}
    (h : Items C c base xs v ys W) (hyl : ys.length = xs.length * c) (hrow : ∀ g, v.ownBlock = some g → g < s0) (hs0 : base ≤ s0) (hcs : cs.length = c) (hx : C (Fresh s0 W) W x cs)
    (hs : W.heap.size ≤ W'.heap.size) (hk : ∀ b, b < W.heap.size → some b ≠ v.ownBlock → W'.heap[b]? = W.heap[b]?) (hrow' : ∀ b, v'.ownBlock = some b → v.ownBlock = some b ∨ W.heap.size ≤ b) : Items C c base (xs ++ [x]) v' (ys ++ cs) W' := by
  have hkk : Keeps (Parts base v W) (Parts base v' W') W W' :=
    ⟨fun b hb => hk b hb.2.1 (fun e => hb.2.2 e.symm), fun b hb => ⟨hb.1, Nat.lt_of_lt_of_le hb.2.1 hs, fun e => by
      rcases hrow' b e with h1 | h1
      · exact hb.2.2 h1
      · have := hb.2.1; omega⟩⟩
  intro j hj
  by_cases hjx : j < xs.length
  · obtain ⟨d, h1, h2, h3⟩ := h j hjx
    refine ⟨d, h1, fun t ht => ?_, ?_⟩
    · rw [List.getElem?_append_left (by rw [hyl]; exact Nat.lt_of_lt_of_le (Nat.add_lt_add_left ht _) (by rw [← Nat.succ_mul]; exact Nat.mul_le_mul_right _ hjx))]
      exact h2 t ht
    · rw [List.getElem_append_left hjx]
      exact hC hkk h3
  · have hje : j = xs.length := by simp at hj; omega
    subst hje
    refine ⟨cs, hcs, fun t _ => ?_, ?_⟩
    · rw [List.getElem?_append_right (by omega), hyl]
      congr 1
      omega
    · rw [List.getElem_append_right (Nat.le_refl _)]
      simp only [Nat.sub_self, List.getElem_cons_zero]
      exact hC hkk (hC ⟨fun _ _ => rfl, fun b hb => ⟨by have := hb.1; omega, hb.2, fun e => by have := hrow b e; have := hb.1; omega⟩⟩ hx)

/-- what is read behind elements that are there. -/
def restRes {α : Type} (sub : Nat → Res α) (l : Toks) (fin : List UInt8) (n : Nat) (xs : List α) (i : Nat) : Res (List α) :=
  if sgn l i [44] = true then pList sub l fin n xs (i + 1) else if sgn l i fin = true then .ok xs (i + 1) else .bad 4

theorem pList_step {α : Type} {sub : Nat → Res α} {l : Toks} {fin : List UInt8} {n : Nat} {acc : List α} {i : Nat} {x : α} {j : Nat} (h : sub i = .ok x j) : pList sub l fin (n + 1) acc i = restRes sub l fin n (acc ++ [x]) j := by rw [pList, h]; rfl

/-- what is told of a list of expressions. -/
def ListR (B : Nat) (l : Toks) (d : Nat) (T : Res (List Ex)) (w : World) (r : Ending) (w' : World) : Prop :=
  Moved B w w' ∧ ∃ a m c, r = .returned (.slice a m c) ∧ ((∃ xs j, T = .ok xs j ∧ EyeAt B l j 0 d w' ∧ SlAt (Fresh w.heap.size w') (ExAt (Fresh w.heap.size w') w') 5 xs (.slice a m c)) ∨ (∃ e i, T = .bad e ∧ e ≠ 0 ∧ EyeAt B l i e d w'))
def AllEye (B : Nat) (l : Toks) (d : Nat) (sub : Nat → Res Ex) : Prop := ∀ (s : ByteArray) i e W, EyeAt B l i e d W → Calls Tryz.prog 338 #[.pointer (some ⟨B, 0, none⟩), .string s] W (ListR B l d (after e (pList sub l s.data.toList (l.length + 1) [] i)) W)

/-- what holds at the head of all's loop. -/
def AllAt (B : Nat) (l : Toks) (d : Nat) (sub : Nat → Res Ex) (fin : List UInt8) (w : World) (T : Res (List Ex)) (g : Nat) (v : Value) (wx : World) : Prop :=
  ∃ (e : Int) (j m : Nat) (ys : List Value), EyeAt B l j e d wx ∧ Moved B w wx ∧ wx.ownsRow w.heap.size 87 5 v m ys ∧ 0 < m ∧ m + g ≤ l.length + 1 ∧
    ((e = 0 ∧ ∃ xs, Items ExC 5 w.heap.size xs v ys wx ∧ m = xs.length ∧ T = restRes sub l fin g xs j ∧ l.length - j ≤ g) ∨ (e ≠ 0 ∧ T = .bad e))

theorem cell_five_new (W : World) (x y z u v : Value) (T : TypeId) (j : Nat) (q : Value) (h : [x, y, z, u, v][j]? = some q) : (W.alloc (.cells #[x, y, z, u, v] T)).cell? (Addr.add ⟨W.heap.size, 0, none⟩ j) = some q := by
  rw [Go.WideShapes.add_plain, World.cell?_alloc_at _ _ _ _ rfl, Nat.zero_add]
  match j, h with
  | 0, h => exact h
  | 1, h => exact h
  | 2, h => exact h
  | 3, h => exact h
  | 4, h => exact h
  | n + 5, h => simp at h

theorem own_first {W : World} {base : Nat} (hb : base ≤ W.heap.size) (x y z u v : Value) (T : TypeId) : (W.alloc (.cells #[x, y, z, u, v] T)).ownsRow base T 5 (.slice (some ⟨W.heap.size, 0, none⟩) 1 1) 1 [x, y, z, u, v] :=
  ⟨rfl, Or.inr ⟨W.heap.size, 1, #[x, y, z, u, v], rfl, hb, heap_alloc_new W _, Nat.le_refl _, by simp [maxLen], rfl, rfl⟩⟩

theorem ey_grown {B : Nat} {l : Toks} {i : Nat} {e d : Int} {w w' : World} {row : Option Nat} (h : EyeAt B l i e d w) (hg : w.grownBy w' row) (hr : ∀ g, row = some g → B < g) : EyeAt B l i e d w' := by
  have hlt := ey_lt h
  have hb : Below (B + 1) w w' := ⟨hg.os, hg.tape, hg.output, hg.size, fun k hk => hg.block k (by omega) (fun e => by have := hr k e.symm; omega)⟩
  obtain ⟨tv, h1, h2, h3⟩ := h
  exact ⟨tv, (hb.block B (by omega)).trans h1, h2.keep (hb.mono (by omega)), h3⟩

theorem mv_grown {B : Nat} {w w1 w' : World} {row : Option Nat} (h : Moved B w w1) (hg : w1.grownBy w' row) (hB : B < w.heap.size) (hr : ∀ g, row = some g → w.heap.size ≤ g) : Moved B w w' :=
  ⟨h.below.trans ⟨hg.os, hg.tape, hg.output, hg.size, fun k hk => hg.block k (by have := h.below.size; omega) (fun e => by have := hr k e.symm; omega)⟩,
   fun c hc hlt => (hg.block c (by have := h.below.size; omega) (fun e => by have := hr c e.symm; omega)).trans (h.above c hc hlt)⟩

set_option maxHeartbeats 8000000 in
theorem all_eye (B : Nat) (l : Toks) (d : Nat) (sub : Nat → Res Ex) (hE : ExprEye B l d sub) (hadv : ∀ i x j, sub i = .ok x j → i ≤ j) : AllEye B l d sub := by
  intro s i e w h
  have hlt := ey_lt h
  have HE := veil hE
  have HAdv := veil hadv
  have HX := veil (hE i e w h)
  obtain ⟨i0, hi, hz0, hz1, hz2⟩ := info_parts infoEx
  clear h hE hadv
  go_enter Tryz.func338, Tryz.ntmps338
  go_wp2_with fail
  refine HX.out.mono ?_
  rintro r w1 ⟨q2, k, n, f, s1, a, m, c, rfl, q1⟩
  have hs1 := q2.below.size
  have h200 : l.length ≤ 200 := by
    obtain ⟨e1, j1, hE1, _⟩ := q1.state
    obtain ⟨_, _, _, _, _, _, _, _, _, _, h200, _⟩ := ey_cells hE1
    exact h200
  have HL : Hid (AllAt B l d sub s.data.toList w (after e (pList sub l s.data.toList (l.length + 1) [] i)) l.length (.slice (some ⟨w1.heap.size, 0, none⟩) 1 1) (w1.alloc (.cells #[.int .i64 k, .int .i64 n, .string f, .string s1, .slice a m c] 87))) := by
    obtain ⟨e1, j1, hE1, hr⟩ := q1.state
    refine ⟨e1, j1, 1, _, ey_alloc hE1 _, q2.alloc (by omega) _, own_first hs1 _ _ _ _ _ _, by omega, by omega, ?_⟩
    rcases hr with ⟨rfl, x, hT, hx⟩ | ⟨hne, hT⟩
    · have he : e = 0 := by
        by_cases he : e = 0
        · exact he
        · rw [after_bad he] at hT; cases hT
      subst he
      rw [after_ok] at hT ⊢
      refine .inl ⟨rfl, [x], ?_, rfl, by rw [pList_step hT]; rfl, by omega⟩
      intro t ht
      have ht0 : t = 0 := by simp at ht; omega
      subst ht0
      exact ⟨_, rfl, fun t _ => by simp, _, _, _, _, _, _, _, rfl, hx.keep ⟨fun b hb => heap_alloc_old _ _ hb.2, fun b hb => ⟨hb.1, by simp; have := hb.2; omega, by simp [Value.ownBlock]; have := hb.2; omega⟩⟩⟩
    · refine .inr ⟨hne, ?_⟩
      by_cases he : e = 0
      · subst he
        rw [after_ok] at hT ⊢
        exact pList_bad hT
      · rw [after_bad he] at hT ⊢
        injection hT with hT
        rw [hT]
  clear q1 q2 HX
  go_wp2_with fail
  go_loopg [5] l.length (fun g v wx => AllAt B l d sub s.data.toList w (after e (pList sub l s.data.toList (l.length + 1) [] i)) g v wx)
  case atStart => exact HL.out
  case round =>
    clear HL
    obtain ⟨e1, j, m1, ys, hE1, hM1, hown, hm0, hmg, hres⟩ := hrel
    obtain ⟨la, lcap, rfl⟩ := own_slice hown
    go_wp2_with fail
    refine (sees_eye B l j e1 _ ⟨#[44]⟩ _ hE1).mono ?_
    rintro r w2 ⟨rfl, q1, q2⟩
    have hM2 := hM1.trans q2
    have hs0 := hM1.below.size
    have hs2 := q2.below.size
    have hown2 := own_moved hown q2 hlt
    have hrow := ownsRow_in hown
    have hk2 : ∀ b, w.heap.size ≤ b → b < wr.heap.size → (Value.slice la m1 lcap).ownBlock ≠ some b → w2.heap[b]? = wr.heap[b]? := fun b hb hb2 _ => q2.above b (by omega) hb2
    cases hsg : seesB l j e1 (ByteArray.mk #[44]).data.toList with
    | false =>
      rw [hsg] at q1
      have hE2 : EyeAt B l j e1 d w2 := q1
      have HRes := veil hres
      have HM2 := veil hM2
      have HO2 := veil hown2
      have HK2 := veil hk2
      have HSg := veil hsg
      clear q1 q2 hE1 hM1 hown hres hk2 hsg hM2 hown2 hrow
      go_wp2_with fail
      refine (wants_eye B l j e1 _ s _ hE2).mono ?_
      rintro r w3 ⟨rfl, q3, q4⟩
      have HQ3 := veil q3
      have HQ4 := veil q4
      clear q3 q4 hE2
      go_wp2_with fail
      go_ret
      refine ⟨HM2.out.trans HQ4.out, la, m1, lcap, rfl, ?_⟩
      rcases HRes.out with ⟨rfl, xs, hit, rfl, hT, hg⟩ | ⟨hne, hT⟩
      · have hs : sgn l j [44] = false := by have := HSg.out; simpa [seesB] using this
        rw [hT, restRes, hs, if_neg (by simp)]
        have hE3 := HQ3.out
        cases hf : sgn l j s.data.toList with
        | true =>
          have hsd : seesB l j 0 s.data.toList = true := by unfold seesB; simp [hf]
          rw [hsd] at hE3
          rw [if_pos rfl]
          refine .inl ⟨xs, j + 1, rfl, hE3, ?_⟩
          have hit3 : Items ExC 5 w.heap.size xs (.slice la xs.length lcap) ys w3 := Items.keep (C := ExC) (fun hk h => exC_keep hk h) (Items.keep (C := ExC) (fun hk h => exC_keep hk h) hit hs2 HK2.out) HQ4.out.below.size (fun b hb hb2 _ => HQ4.out.above b (by omega) hb2)
          have hown3 := own_moved HO2.out HQ4.out hlt
          refine ⟨la, lcap, rfl, ⟨by unfold maxLen; omega, ?_⟩, Or.inr ?_⟩
          · obtain ⟨g, cap', cur, h1, _, _, h3, _⟩ := hown3.2.resolve_left (by rintro ⟨_, h0⟩; omega)
            cases h1; exact h3
          · obtain ⟨g, cap', hv⟩ := ownsRow_form' hown3 hm0
            cases hv
            have hin := ownsRow_in hown3 g rfl
            refine ⟨g, 0, rfl, ⟨by omega, hin.2⟩, RowAt.mk fun t ht => ?_⟩
            obtain ⟨cs, h1, h2, h3⟩ := hit3 t ht
            refine exC_at h1 (exC_keep ⟨fun _ _ => rfl, fun b hb => ⟨by have := hb.1; omega, hb.2.1⟩⟩ h3) (fun t' u hu => ?_)
            have ht' : t' < 5 := by rw [← h1]; exact (List.getElem?_eq_some_iff.1 hu).1
            rw [Nat.zero_add]
            exact own_cell hown3 _ _ ((h2 t' ht').trans hu)
        | false =>
          have hsd : seesB l j 0 s.data.toList = false := by unfold seesB; simp [hf]
          rw [hsd] at hE3
          rw [if_neg (by simp)]
          exact .inr ⟨4, _, rfl, by decide, hE3⟩
      · have hE3 := HQ3.out
        have hsd : seesB l j e1 s.data.toList = false := by unfold seesB; simp [hne]
        rw [hsd] at hE3
        have he : wantE false e1 = e1 := by unfold wantE firstOf; simp [hne]
        rw [he] at hE3
        exact .inr ⟨e1, _, hT, hne, hE3⟩
    | true =>
      rw [hsg] at q1
      have hb : e1 = 0 ∧ sgn l j [44] = true := by simpa [seesB] using hsg
      obtain ⟨he1, hs⟩ := hb
      subst he1
      have hE2 : EyeAt B l (j + 1) 0 d w2 := q1
      have HX := veil (HE.out (j + 1) 0 w2 hE2)
      have HRes := veil hres
      have HM2 := veil hM2
      have HO2 := veil hown2
      have HK2 := veil hk2
      have HS := veil hs
      have HRow := veil hrow
      clear q1 q2 hE1 hM1 hown hres hk2 hsg hM2 hown2 hE2 hs hrow
      go_wp2_with fail
      refine HX.out.mono ?_
      rintro r w3 ⟨q2, k2, n2, f2, s2, a2, m2, c2, rfl, q1⟩
      obtain ⟨e3, j3, hE3, hr3⟩ := q1.state
      clear q1
      have hs3 := q2.below.size
      have hown3 := own_moved HO2.out q2 hlt
      have HQ2 := veil q2
      have HE3 := veil hE3
      have HR3 := veil hr3
      clear q2 hE3 hr3 HX
      go_wp2_with (at_builtin; refine wpList_append_lies _ rfl _ _ 85 rfl w.heap.size 87 i0 (.agg #[.int .i64 0, .int .i64 0, .string ⟨#[]⟩, .string ⟨#[]⟩, .slice none 0 0]) 5 72 Tryz.underlying85 hi hz0 hz1 hz2 rfl (by decide) (.slice la m1 lcap) m1 ys rfl (hown3.alloc _) ⟨w3.heap.size, 0, none⟩ 1 1 [.int .i64 k2, .int .i64 n2, .string f2, .string s2, .slice a2 m2 c2] rfl rfl ?c1 ?c2 ?c3 ?c4 ?c5 ?c6 (w3.heap.size + 1) ?c7 ?_)
      case c1 => exact cell_five_new _ _ _ _ _ _ _
      case c2 =>
        intro u hu
        simp at hu
        rcases hu with rfl | rfl | rfl | rfl | rfl <;> rfl
      case c3 => omega
      case c4 => unfold maxLen; omega
      case c5 => omega
      case c6 => simp; omega
      case c7 => simp
      intro g1 cap1 w4 hown4 hgrow hat hlt4
      have HO4 := veil hown4
      have HGr := veil hgrow
      have HAt := veil hat
      have HO3 := veil hown3
      clear hown4 hgrow hat hown3
      go_wp2_with fail
      obtain ⟨xs, hit, rfl, hT, hg⟩ : ∃ xs, Items ExC 5 w.heap.size xs (.slice la m1 lcap) ys wr ∧ m1 = xs.length ∧ after e (pList sub l s.data.toList (l.length + 1) [] i) = restRes sub l s.data.toList gk xs j ∧ l.length - j ≤ gk := by
        rcases HRes.out with ⟨_, xs, hit, hm, hT, hg⟩ | ⟨hne, _⟩
        · exact ⟨xs, hit, hm, hT, hg⟩
        · exact absurd rfl hne
      have hjl := sgn_lt HS.out
      cases gk with
      | zero => omega
      | succ g =>
        go_roundg g
        case measure => omega
        case rel =>
          have hrow3 := ownsRow_in (HO3.out.alloc (.cells #[.int .i64 k2, .int .i64 n2, .string f2, .string s2, .slice a2 m2 c2] 87))
          refine ⟨e3, j3, xs.length + 1, _, ey_grown (ey_alloc HE3.out _) HGr.out (fun g' hg' => by have := hrow3 g' hg'; omega), mv_grown ((HM2.out.trans HQ2.out).alloc (by omega) _) HGr.out hlt (fun g' hg' => (hrow3 g' hg').1), HO4.out, by omega, by omega, ?_⟩
          rw [restRes, if_pos HS.out] at hT
          rcases HR3.out with ⟨rfl, x, hp, hpx⟩ | ⟨hne, hp⟩
          · rw [after_ok] at hp
            have hadv2 := HAdv.out _ _ _ hp
            rw [pList_step hp] at hT
            refine .inl ⟨rfl, xs ++ [x], ?_, by simp, hT, by omega⟩
            have hit2 := Items.keep (C := ExC) (fun hk h => exC_keep hk h) hit hs2 HK2.out
            have hit3 : Items ExC 5 w.heap.size xs (.slice la xs.length lcap) ys w3 := Items.keep (C := ExC) (fun hk h => exC_keep hk h) hit2 hs3 (fun b hb hb2 _ => HQ2.out.above b (by omega) hb2)
            refine Items.push (C := ExC) (fun hk h => exC_keep hk h) (s0 := w2.heap.size) (W := w3) hit3 HO3.out.1 (fun g' hg' => by have := HRow.out g' hg'; omega) (by omega) rfl ⟨_, _, _, _, _, _, _, rfl, hpx⟩ (by have := HGr.out.size; simp at this; omega) (fun b hb hne => ?_) (fun b hb => ?_)
            · exact (HGr.out.block b (by simp; omega) hne).trans (heap_alloc_old _ _ hb)
            · have hb' : g1 = b := by simpa [Value.ownBlock] using hb
              subst hb'
              rcases HAt.out with h1 | h1
              · exact .inl h1
              · exact .inr (by omega)
          · rw [after_ok] at hp
            rw [pList_bad hp] at hT
            exact .inr ⟨hne, hT⟩

end Go.Proofs.YtagbaimfigljiaaGreatDoor
namespace Go.Proofs.YtagbaimfigljiaaGreatDoor
open Go.RowKit
set_option maxRecDepth 100000

theorem sees_is {l : Toks} {i : Nat} {e : Int} {s : ByteArray} {b : Bool} (he : e = 0) (h : sgn l i s.data.toList = b) : seesB l i e s.data.toList = b := by unfold seesB; rw [he, h]; simp
theorem sees_wrong {l : Toks} {i : Nat} {e : Int} {s : List UInt8} (he : e ≠ 0) : seesB l i e s = false := by unfold seesB; simp [he]
theorem want_wrong {e : Int} (he : e ≠ 0) : wantE false e = e := by unfold wantE firstOf; simp [he]

set_option maxHeartbeats 8000000 in
theorem head_paren (B : Nat) (l : Toks) (d : Nat) (sub : Nat → Res Ex) (hE : ExprEye B l d sub) (i : Nat) (w : World) (h : EyeAt B l i 0 d w) (hs : sgn l i [40] = true) :
    Calls Tryz.prog 317 #[.pointer (some ⟨B, 0, none⟩)] w (ExprR B l d (pHead sub l i) w) := by
  have hlt := ey_lt h
  have HE := veil hE
  have HA := veil (ey_alloc h (.cells #[.int .i64 0, .int .i64 0, .string ⟨#[]⟩, .string ⟨#[]⟩, .slice none 0 0] 87))
  have HM : Hid (Moved B w (w.alloc (.cells #[.int .i64 0, .int .i64 0, .string ⟨#[]⟩, .string ⟨#[]⟩, .slice none 0 0] 87))) := Moved.of_below ((Below.refl _ _).alloc (Nat.le_refl _) _) (by omega)
  have HT : Hid (pHead sub l i = match sub (i + 1) with
    | .bad e => .bad e
    | .ok x j => if sgn l j [41] = true then .ok x (j + 1) else .bad 4) := by show _ = _; rw [pHead, if_pos hs]; rfl
  have HSg : Hid (seesB l i 0 (ByteArray.mk #[40]).data.toList = true) := sees_is rfl hs
  clear h hE hs
  go_enter Tryz.func317, Tryz.ntmps317
  go_wp2_with fail
  refine (sees_eye B l i 0 _ ⟨#[40]⟩ _ HA.out).mono ?_
  rintro r w1 ⟨rfl, q1, q2⟩
  rw [HSg.out] at q1
  rw [HSg.out]
  have hE1 : EyeAt B l (i + 1) 0 d w1 := q1
  have HX := veil (HE.out (i + 1) 0 w1 hE1)
  have hs1 : w.heap.size + 1 ≤ w1.heap.size := by have := q2.below.size; simpa using this
  have HZ1 := veil ((q2.above w.heap.size hlt (by simp)).trans (heap_alloc_new w (.cells #[.int .i64 0, .int .i64 0, .string ⟨#[]⟩, .string ⟨#[]⟩, .slice none 0 0] 87)))
  have HM1 := veil (HM.out.trans q2)
  clear q1 q2 hE1
  go_wp2_with fail
  refine HX.out.mono ?_
  rintro r w2 ⟨q2, k2, n2, f2, s2, a2, m2, c2, rfl, q1⟩
  obtain ⟨e3, j3, hE3, hr3⟩ := q1.state
  rw [after_ok] at hr3
  have hs2 := q2.below.size
  have HZ2 := veil ((heap_alloc_old w2 (.cells #[.int .i64 k2, .int .i64 n2, .string f2, .string s2, .slice a2 m2 c2] 87) (by omega)).trans ((q2.above w.heap.size hlt (by omega)).trans HZ1.out))
  have HM2 := veil ((HM1.out.trans q2).alloc (by omega) (.cells #[.int .i64 k2, .int .i64 n2, .string f2, .string s2, .slice a2 m2 c2] 87))
  have hE4 := ey_alloc hE3 (.cells #[.int .i64 k2, .int .i64 n2, .string f2, .string s2, .slice a2 m2 c2] 87)
  have HR3 := veil hr3
  clear q1 q2 hE3 hr3
  go_wp2_with fail
  refine (wants_eye B l j3 e3 _ ⟨#[41]⟩ _ hE4).mono ?_
  rintro r w5 ⟨rfl, q3, q4⟩
  have hs5 : w2.heap.size + 1 ≤ w5.heap.size := by have := q4.below.size; simpa using this
  have hz5 := (q4.above w.heap.size hlt (by simp; omega)).trans HZ2.out
  have ho5 := (q4.above w2.heap.size (by omega) (by simp)).trans (heap_alloc_new w2 (.cells #[.int .i64 k2, .int .i64 n2, .string f2, .string s2, .slice a2 m2 c2] 87))
  have hk6 : Keeps (Fresh w1.heap.size w2) (OwnB (w.heap.size + 1) w2.heap.size w5) w2 w5 := ⟨fun b hb => (q4.above b (by have := hb.1; omega) (by simp; have := hb.2; omega)).trans (heap_alloc_old _ _ hb.2), fun b hb => ⟨by have := hb.1; omega, by have := hb.2; omega, by have := hb.2; omega⟩⟩
  have HFin := veil (expr_fin (T := pHead sub l i) (ob := w2.heap.size) (k := k2) (n := n2) (f := f2) (s := s2) (a := a2) (m := m2) (c := c2) q3 (HM2.out.trans q4) hlt hz5 (by
    rw [HT.out]
    rcases HR3.out with ⟨rfl, x, hp, hpx⟩ | ⟨hne, hp⟩
    · rw [hp]
      cases hs41 : sgn l j3 [41] with
      | true =>
        rw [show seesB l j3 0 (ByteArray.mk #[41]).data.toList = true from sees_is rfl hs41]
        exact .inl ⟨rfl, x, hpx.keep hk6, by simp [hs41, adv]⟩
      | false =>
        rw [show seesB l j3 0 (ByteArray.mk #[41]).data.toList = false from sees_is rfl hs41]
        exact .inr ⟨by decide, by simp [hs41, wantE, firstOf]⟩
    · rw [hp, sees_wrong hne, want_wrong hne]
      exact .inr ⟨hne, rfl⟩))
  obtain ⟨⟨o0, o1, o2, o3, o4⟩, _⟩ := five_cells ho5
  obtain ⟨⟨r0, r1, r2, r3, r4⟩, ⟨g0, g1, g2, g3, g4⟩⟩ := five_cells hz5
  clear q3 q4 hz5 ho5 hk6 hE4 HR3
  go_wp2_with fail
  obtain ⟨F, hF, ⟨y0, y1, y2, y3, y4⟩, hR⟩ := HFin.out
  rw [hF]
  exact bodyPost_ret (v := .agg #[.int .i64 k2, .int .i64 n2, .string f2, .string s2, .slice a2 m2 c2]) (by simp [results, Tryz.results317, go_sem, y0, y1, y2, y3, y4]) rfl hR

set_option maxHeartbeats 8000000 in
theorem head_items (B : Nat) (l : Toks) (d : Nat) (sub : Nat → Res Ex) (hA : AllEye B l d sub) (i : Nat) (w : World) (h : EyeAt B l i 0 d w) (hs : sgn l i [40] = false) (hs2 : sgn l i [91] = true) :
    Calls Tryz.prog 317 #[.pointer (some ⟨B, 0, none⟩)] w (ExprR B l d (pHead sub l i) w) := by
  have hlt := ey_lt h
  have HAl := veil hA
  have HA := veil (ey_alloc h (.cells #[.int .i64 0, .int .i64 0, .string ⟨#[]⟩, .string ⟨#[]⟩, .slice none 0 0] 87))
  have HM : Hid (Moved B w (w.alloc (.cells #[.int .i64 0, .int .i64 0, .string ⟨#[]⟩, .string ⟨#[]⟩, .slice none 0 0] 87))) := Moved.of_below ((Below.refl _ _).alloc (Nat.le_refl _) _) (by omega)
  have HT : Hid (pHead sub l i = match pList sub l [93] (l.length + 1) [] (i + 1) with
    | .bad e => .bad e
    | .ok xs j => .ok (exItems xs) j) := by show _ = _; rw [pHead, if_neg (by rw [hs]; simp), if_pos hs2]; rfl
  have HSg : Hid (seesB l i 0 (ByteArray.mk #[40]).data.toList = false) := sees_is rfl hs
  have HSg2 : Hid (seesB l i 0 (ByteArray.mk #[91]).data.toList = true) := sees_is rfl hs2
  clear h hA hs hs2
  go_enter Tryz.func317, Tryz.ntmps317
  go_wp2_with fail
  refine (sees_eye B l i 0 _ ⟨#[40]⟩ _ HA.out).mono ?_
  rintro r w1 ⟨rfl, q1, q2⟩
  rw [HSg.out] at q1
  rw [HSg.out]
  have hE1 : EyeAt B l i 0 d w1 := q1
  have hs1 : w.heap.size + 1 ≤ w1.heap.size := by have := q2.below.size; simpa using this
  have HZ1 := veil ((q2.above w.heap.size hlt (by simp)).trans (heap_alloc_new w (.cells #[.int .i64 0, .int .i64 0, .string ⟨#[]⟩, .string ⟨#[]⟩, .slice none 0 0] 87)))
  have HM1 := veil (HM.out.trans q2)
  clear q1 q2
  go_wp2_with fail
  refine (sees_eye B l i 0 _ ⟨#[91]⟩ _ hE1).mono ?_
  rintro r w2 ⟨rfl, q1, q2⟩
  rw [HSg2.out] at q1
  rw [HSg2.out]
  have hE2 : EyeAt B l (i + 1) 0 d w2 := q1
  have HX := veil (HAl.out ⟨#[93]⟩ (i + 1) 0 w2 hE2)
  have hs2 := q2.below.size
  have HZ2 := veil ((q2.above w.heap.size hlt (by omega)).trans HZ1.out)
  have HM2 := veil (HM1.out.trans q2)
  clear q1 q2 hE1 hE2
  go_wp2_with fail
  refine HX.out.mono ?_
  rintro r w3 ⟨q2, a, m, c, rfl, q1⟩
  rw [after_ok] at q1
  have hs3 := q2.below.size
  have hz3 := (q2.above w.heap.size hlt (by omega)).trans HZ2.out
  have hst : ∃ e j, EyeAt B l j e d w3 ∧ ((e = 0 ∧ ∃ xs, pList sub l [93] (l.length + 1) [] (i + 1) = .ok xs j ∧ SlAt (Fresh w2.heap.size w3) (ExAt (Fresh w2.heap.size w3) w3) 5 xs (.slice a m c)) ∨ (e ≠ 0 ∧ pList sub l [93] (l.length + 1) [] (i + 1) = .bad e)) := by
    rcases q1 with ⟨xs, j, h1, h2, h3⟩ | ⟨e, j, h1, h2, h3⟩
    · exact ⟨0, j, h2, .inl ⟨rfl, xs, h1, h3⟩⟩
    · exact ⟨e, j, h3, .inr ⟨h2, h1⟩⟩
  obtain ⟨e3, j3, hE3, hr3⟩ := hst
  have HFin := veil (expr_fin (T := pHead sub l i) (ob := w.heap.size) (k := 6) (n := 0) (f := ⟨#[]⟩) (s := ⟨#[]⟩) (a := a) (m := m) (c := c) hE3 (HM2.out.trans q2) hlt hz3 (by
    rw [HT.out]
    rcases hr3 with ⟨rfl, xs, hp, hpx⟩ | ⟨hne, hp⟩
    · rw [hp]
      have hcs : ExCs (Fresh w2.heap.size w3) w3 (exItems xs) 6 0 ⟨#[]⟩ ⟨#[]⟩ (.slice a m c) := ⟨xs, rfl, empty_le, empty_le, hpx⟩
      exact .inl ⟨rfl, _, hcs.keep ⟨fun _ _ => rfl, fun b hb => ⟨by have := hb.1; omega, hb.2, by have := hb.1; omega⟩⟩, rfl⟩
    · rw [hp]
      exact .inr ⟨hne, rfl⟩))
  obtain ⟨⟨r0, r1, r2, r3, r4⟩, ⟨g0, g1, g2, g3, g4⟩⟩ := five_cells hz3
  clear q1 q2 hz3 hE3 hr3
  go_wp2_with fail
  obtain ⟨F, hF, ⟨y0, y1, y2, y3, y4⟩, hR⟩ := HFin.out
  rw [hF]
  exact bodyPost_ret (v := .agg #[.int .i64 6, .int .i64 0, .string ⟨#[]⟩, .string ⟨#[]⟩, .slice a m c]) (by simp [results, Tryz.results317, go_sem, y0, y1, y2, y3, y4]) rfl hR

end Go.Proofs.YtagbaimfigljiaaGreatDoor
namespace Go.Proofs.YtagbaimfigljiaaGreatDoor
open Go.RowKit
set_option maxRecDepth 100000

theorem ex_leaf {S : Nat → Prop} {w : World} (k n : Int) {f s : ByteArray} (hf : f.size ≤ maxLen) (hs : s.size ≤ maxLen) : ExCs S w (.mk k n f s []) k n f s (.slice none 0 0) :=
  ⟨[], rfl, hf, hs, none, 0, rfl, ⟨by simp [maxLen], by simp⟩, .inl rfl⟩

set_option maxHeartbeats 8000000 in
theorem head_quote (B : Nat) (l : Toks) (d : Nat) (T : Res Ex) (i i1 : Nat) (e : Int) (tx : ByteArray) (hsz : tx.size ≤ maxLen) (w : World) (h : EyeAt B l i e d w) (hs : seesB l i e [40] = false) (hs2 : seesB l i e [91] = false)
    (hone : ∀ W, EyeAt B l i e d W → Calls Tryz.prog 140 #[.pointer (some ⟨B, 0, none⟩)] W fun r w' => r = .returned (.agg #[.int .i64 3, .string tx]) ∧ EyeAt B l i1 e d w' ∧ Moved B W w')
    (he : e = 0) (hT : T = .ok (exQuote tx) i1) :
    Calls Tryz.prog 317 #[.pointer (some ⟨B, 0, none⟩)] w (ExprR B l d T w) := by
  have hlt := ey_lt h
  have HA := veil (ey_alloc h (.cells #[.int .i64 0, .int .i64 0, .string ⟨#[]⟩, .string ⟨#[]⟩, .slice none 0 0] 87))
  have HM : Hid (Moved B w (w.alloc (.cells #[.int .i64 0, .int .i64 0, .string ⟨#[]⟩, .string ⟨#[]⟩, .slice none 0 0] 87))) := Moved.of_below ((Below.refl _ _).alloc (Nat.le_refl _) _) (by omega)
  have HSg : Hid (seesB l i e (ByteArray.mk #[40]).data.toList = false) := hs
  have HSg2 : Hid (seesB l i e (ByteArray.mk #[91]).data.toList = false) := hs2
  have HOne := veil hone
  have HT := veil hT
  have HE := veil he
  clear h hs hs2 hone hT he
  go_enter Tryz.func317, Tryz.ntmps317
  go_wp2_with fail
  refine (sees_eye B l i e _ ⟨#[40]⟩ _ HA.out).mono ?_
  rintro r w1 ⟨rfl, q1, q2⟩
  rw [HSg.out] at q1
  rw [HSg.out]
  have hE1 : EyeAt B l i e d w1 := q1
  have hs1 : w.heap.size + 1 ≤ w1.heap.size := by have := q2.below.size; simpa using this
  have HZ1 := veil ((q2.above w.heap.size hlt (by simp)).trans (heap_alloc_new w (.cells #[.int .i64 0, .int .i64 0, .string ⟨#[]⟩, .string ⟨#[]⟩, .slice none 0 0] 87)))
  have HM1 := veil (HM.out.trans q2)
  clear q1 q2
  go_wp2_with fail
  refine (sees_eye B l i e _ ⟨#[91]⟩ _ hE1).mono ?_
  rintro r w2 ⟨rfl, q1, q2⟩
  rw [HSg2.out] at q1
  rw [HSg2.out]
  have hE2 : EyeAt B l i e d w2 := q1
  have HX := veil (HOne.out w2 hE2)
  have hs2 := q2.below.size
  have HZ2 := veil ((q2.above w.heap.size hlt (by omega)).trans HZ1.out)
  have HM2 := veil (HM1.out.trans q2)
  clear q1 q2 hE1 hE2
  go_wp2_with fail
  refine HX.out.mono ?_
  rintro r w3 ⟨rfl, hE3, q2⟩
  have hs3 := q2.below.size
  have hz3 := (heap_alloc_old w3 (.cells #[.int .i64 3, .string tx] 199) (by omega)).trans ((q2.above w.heap.size hlt (by omega)).trans HZ2.out)
  have hM3 := (HM2.out.trans q2).alloc (by omega) (.cells #[.int .i64 3, .string tx] 199)
  have hE4 := ey_alloc hE3 (.cells #[.int .i64 3, .string tx] 199)
  have t0 : (w3.alloc (.cells #[.int .i64 3, .string tx] 199)).cell? ⟨w3.heap.size, 0, none⟩ = some (.int .i64 3) := World.cell?_alloc_at _ _ _ _ rfl
  have t1 : (w3.alloc (.cells #[.int .i64 3, .string tx] 199)).cell? ⟨w3.heap.size, 1, none⟩ = some (.string tx) := World.cell?_alloc_at _ _ _ _ rfl
  clear q2 hE3 HX HA HM HZ1 HM1 HZ2 HM2 HSg HSg2 HOne
  have HFin := veil (expr_fin (T := T) (ob := w.heap.size) (k := 2) (n := 0) (f := ⟨#[]⟩) (s := tx) (a := none) (m := 0) (c := 0) hE4 hM3 hlt hz3 (.inl ⟨HE.out, _, ex_leaf 2 0 empty_le hsz, HT.out⟩))
  obtain ⟨⟨r0, r1, r2, r3, r4⟩, ⟨g0, g1, g2, g3, g4⟩⟩ := five_cells hz3
  clear hE4 hM3 hz3
  go_wp2_with fail
  obtain ⟨F, hF, ⟨y0, y1, y2, y3, y4⟩, hR⟩ := HFin.out
  rw [hF]
  exact bodyPost_ret (v := .agg #[.int .i64 2, .int .i64 0, .string ⟨#[]⟩, .string tx, .slice none 0 0]) (by simp [results, Tryz.results317, go_sem, y0, y1, y2, y3, y4]) rfl hR

set_option maxHeartbeats 8000000 in
theorem head_bad (B : Nat) (l : Toks) (d : Nat) (T : Res Ex) (i i1 : Nat) (e kd : Int) (tx : ByteArray) (hsz : tx.size ≤ maxLen) (w : World) (h : EyeAt B l i e d w) (hs : seesB l i e [40] = false) (hs2 : seesB l i e [91] = false)
    (hone : ∀ W, EyeAt B l i e d W → Calls Tryz.prog 140 #[.pointer (some ⟨B, 0, none⟩)] W fun r w' => r = .returned (.agg #[.int .i64 kd, .string tx]) ∧ EyeAt B l i1 e d w' ∧ Moved B W w')
    (hq : (kd == 3) = false) (hn : (kd == 2) = false) (hw : (kd != 1) = true ∨ (kd = 1 ∧ identOk tx = false)) (hT : T = .bad (firstOf e 4)) :
    Calls Tryz.prog 317 #[.pointer (some ⟨B, 0, none⟩)] w (ExprR B l d T w) := by
  have HNe : Hid (firstOf e 4 ≠ 0) := by show ¬ _; unfold firstOf; split <;> omega
  rcases hw with hw | ⟨rfl, hid⟩
  · have hlt := ey_lt h
    have HA := veil (ey_alloc h (.cells #[.int .i64 0, .int .i64 0, .string ⟨#[]⟩, .string ⟨#[]⟩, .slice none 0 0] 87))
    have HM : Hid (Moved B w (w.alloc (.cells #[.int .i64 0, .int .i64 0, .string ⟨#[]⟩, .string ⟨#[]⟩, .slice none 0 0] 87))) := Moved.of_below ((Below.refl _ _).alloc (Nat.le_refl _) _) (by omega)
    have HSg : Hid (seesB l i e (ByteArray.mk #[40]).data.toList = false) := hs
    have HSg2 : Hid (seesB l i e (ByteArray.mk #[91]).data.toList = false) := hs2
    have HOne := veil hone
    have HT := veil hT
    clear h hs hs2 hone hT
    go_enter Tryz.func317, Tryz.ntmps317
    go_wp2_with fail
    refine (sees_eye B l i e _ ⟨#[40]⟩ _ HA.out).mono ?_
    rintro r w1 ⟨rfl, q1, q2⟩
    rw [HSg.out] at q1
    rw [HSg.out]
    have hE1 : EyeAt B l i e d w1 := q1
    have hs1 : w.heap.size + 1 ≤ w1.heap.size := by have := q2.below.size; simpa using this
    have HZ1 := veil ((q2.above w.heap.size hlt (by simp)).trans (heap_alloc_new w (.cells #[.int .i64 0, .int .i64 0, .string ⟨#[]⟩, .string ⟨#[]⟩, .slice none 0 0] 87)))
    have HM1 := veil (HM.out.trans q2)
    clear q1 q2
    go_wp2_with fail
    refine (sees_eye B l i e _ ⟨#[91]⟩ _ hE1).mono ?_
    rintro r w2 ⟨rfl, q1, q2⟩
    rw [HSg2.out] at q1
    rw [HSg2.out]
    have hE2 : EyeAt B l i e d w2 := q1
    have HX := veil (HOne.out w2 hE2)
    have hs2 := q2.below.size
    have HZ2 := veil ((q2.above w.heap.size hlt (by omega)).trans HZ1.out)
    have HM2 := veil (HM1.out.trans q2)
    clear q1 q2 hE1 hE2
    go_wp2_with fail
    refine HX.out.mono ?_
    rintro r w3 ⟨rfl, hE3, q2⟩
    have hs3 := q2.below.size
    have hz3 := (heap_alloc_old w3 (.cells #[.int .i64 kd, .string tx] 199) (by omega)).trans ((q2.above w.heap.size hlt (by omega)).trans HZ2.out)
    have hM3 := (HM2.out.trans q2).alloc (by omega) (.cells #[.int .i64 kd, .string tx] 199)
    have hE4 := ey_alloc hE3 (.cells #[.int .i64 kd, .string tx] 199)
    have t0 : (w3.alloc (.cells #[.int .i64 kd, .string tx] 199)).cell? ⟨w3.heap.size, 0, none⟩ = some (.int .i64 kd) := World.cell?_alloc_at _ _ _ _ rfl
    have t1 : (w3.alloc (.cells #[.int .i64 kd, .string tx] 199)).cell? ⟨w3.heap.size, 1, none⟩ = some (.string tx) := World.cell?_alloc_at _ _ _ _ rfl
    clear q2 hE3 HX HA HM HZ1 HM1 HZ2 HM2 HSg HSg2 HOne
    have HE4 := veil hE4
    have HM3 := veil hM3
    have HZ3 := veil hz3
    clear hE4 hM3 hz3
    go_wp2_with fail
    refine (bad_eye B l i1 e _ 4 _ HE4.out).mono ?_
    rintro r w5 ⟨rfl, q1, q2⟩
    have hs5 : w3.heap.size + 1 ≤ w5.heap.size := by have := q2.below.size; simpa using this
    have hz5 := (q2.above w.heap.size hlt (by simp; omega)).trans HZ3.out
    have HFin := veil (expr_fin (T := T) (ob := w.heap.size) (k := 0) (n := 0) (f := ⟨#[]⟩) (s := ⟨#[]⟩) (a := none) (m := 0) (c := 0) q1 (HM3.out.trans q2) hlt hz5 (.inr ⟨HNe.out, HT.out⟩))
    obtain ⟨⟨r0, r1, r2, r3, r4⟩, ⟨g0, g1, g2, g3, g4⟩⟩ := five_cells hz5
    clear q1 q2 hz5
    go_wp2_with fail
    obtain ⟨F, hF, ⟨y0, y1, y2, y3, y4⟩, hR⟩ := HFin.out
    rw [hF]
    exact bodyPost_ret (v := .agg #[.int .i64 0, .int .i64 0, .string ⟨#[]⟩, .string ⟨#[]⟩, .slice none 0 0]) (by simp [results, Tryz.results317, go_sem, y0, y1, y2, y3, y4]) rfl hR
  · have hlt := ey_lt h
    have HA := veil (ey_alloc h (.cells #[.int .i64 0, .int .i64 0, .string ⟨#[]⟩, .string ⟨#[]⟩, .slice none 0 0] 87))
    have HM : Hid (Moved B w (w.alloc (.cells #[.int .i64 0, .int .i64 0, .string ⟨#[]⟩, .string ⟨#[]⟩, .slice none 0 0] 87))) := Moved.of_below ((Below.refl _ _).alloc (Nat.le_refl _) _) (by omega)
    have HSg : Hid (seesB l i e (ByteArray.mk #[40]).data.toList = false) := hs
    have HSg2 : Hid (seesB l i e (ByteArray.mk #[91]).data.toList = false) := hs2
    have HOne := veil hone
    have HT := veil hT
    clear h hs hs2 hone hT
    go_enter Tryz.func317, Tryz.ntmps317
    go_wp2_with fail
    refine (sees_eye B l i e _ ⟨#[40]⟩ _ HA.out).mono ?_
    rintro r w1 ⟨rfl, q1, q2⟩
    rw [HSg.out] at q1
    rw [HSg.out]
    have hE1 : EyeAt B l i e d w1 := q1
    have hs1 : w.heap.size + 1 ≤ w1.heap.size := by have := q2.below.size; simpa using this
    have HZ1 := veil ((q2.above w.heap.size hlt (by simp)).trans (heap_alloc_new w (.cells #[.int .i64 0, .int .i64 0, .string ⟨#[]⟩, .string ⟨#[]⟩, .slice none 0 0] 87)))
    have HM1 := veil (HM.out.trans q2)
    clear q1 q2
    go_wp2_with fail
    refine (sees_eye B l i e _ ⟨#[91]⟩ _ hE1).mono ?_
    rintro r w2 ⟨rfl, q1, q2⟩
    rw [HSg2.out] at q1
    rw [HSg2.out]
    have hE2 : EyeAt B l i e d w2 := q1
    have HX := veil (HOne.out w2 hE2)
    have hs2 := q2.below.size
    have HZ2 := veil ((q2.above w.heap.size hlt (by omega)).trans HZ1.out)
    have HM2 := veil (HM1.out.trans q2)
    clear q1 q2 hE1 hE2
    go_wp2_with fail
    refine HX.out.mono ?_
    rintro r w3 ⟨rfl, hE3, q2⟩
    have hs3 := q2.below.size
    have hz3 := (heap_alloc_old w3 (.cells #[.int .i64 1, .string tx] 199) (by omega)).trans ((q2.above w.heap.size hlt (by omega)).trans HZ2.out)
    have hM3 := (HM2.out.trans q2).alloc (by omega) (.cells #[.int .i64 1, .string tx] 199)
    have hE4 := ey_alloc hE3 (.cells #[.int .i64 1, .string tx] 199)
    have t0 : (w3.alloc (.cells #[.int .i64 1, .string tx] 199)).cell? ⟨w3.heap.size, 0, none⟩ = some (.int .i64 1) := World.cell?_alloc_at _ _ _ _ rfl
    have t1 : (w3.alloc (.cells #[.int .i64 1, .string tx] 199)).cell? ⟨w3.heap.size, 1, none⟩ = some (.string tx) := World.cell?_alloc_at _ _ _ _ rfl
    clear q2 hE3 HX HA HM HZ1 HM1 HZ2 HM2 HSg HSg2 HOne
    have HE4 := veil hE4
    have HM3 := veil hM3
    have HZ3 := veil hz3
    clear hE4 hM3 hz3
    go_wp2_with fail
    refine (nameMay_any tx hsz _).mono ?_
    rintro r w4 ⟨rfl, rfl⟩
    rw [hid]
    go_wp2_with fail
    refine (bad_eye B l i1 e _ 4 _ HE4.out).mono ?_
    rintro r w5 ⟨rfl, q1, q2⟩
    have hs5 : w3.heap.size + 1 ≤ w5.heap.size := by have := q2.below.size; simpa using this
    have hz5 := (q2.above w.heap.size hlt (by simp; omega)).trans HZ3.out
    have HFin := veil (expr_fin (T := T) (ob := w.heap.size) (k := 0) (n := 0) (f := ⟨#[]⟩) (s := ⟨#[]⟩) (a := none) (m := 0) (c := 0) q1 (HM3.out.trans q2) hlt hz5 (.inr ⟨HNe.out, HT.out⟩))
    obtain ⟨⟨r0, r1, r2, r3, r4⟩, ⟨g0, g1, g2, g3, g4⟩⟩ := five_cells hz5
    clear q1 q2 hz5
    go_wp2_with fail
    obtain ⟨F, hF, ⟨y0, y1, y2, y3, y4⟩, hR⟩ := HFin.out
    rw [hF]
    exact bodyPost_ret (v := .agg #[.int .i64 0, .int .i64 0, .string ⟨#[]⟩, .string ⟨#[]⟩, .slice none 0 0]) (by simp [results, Tryz.results317, go_sem, y0, y1, y2, y3, y4]) rfl hR

end Go.Proofs.YtagbaimfigljiaaGreatDoor
namespace Go.Proofs.YtagbaimfigljiaaGreatDoor
open Go.RowKit
set_option maxRecDepth 100000

theorem numVal_snoc (l : List UInt8) (c : UInt8) : numVal (l ++ [c]) = 10 * numVal l + ((c.toNat : Int) - 48) := by
  unfold numVal
  rw [List.foldl_append]
  rfl

theorem num_fold : ∀ (l : List UInt8) (n : Int), 0 ≤ n → (∀ c ∈ l, 48 ≤ c.toNat ∧ c.toNat ≤ 57) → 0 ≤ l.foldl (fun n c => 10 * n + ((c.toNat : Int) - 48)) n ∧ l.foldl (fun n c => 10 * n + ((c.toNat : Int) - 48)) n < (n + 1) * 10 ^ l.length
  | [], n, h, _ => by simp; omega
  | c :: l, n, h, hl => by
    have hc := hl c (by simp)
    have ih := num_fold l (10 * n + ((c.toNat : Int) - 48)) (by omega) (fun d hd => hl d (by simp [hd]))
    rw [List.foldl_cons, List.length_cons, Int.pow_succ]
    refine ⟨ih.1, Int.lt_of_lt_of_le ih.2 ?_⟩
    have hp : (0 : Int) ≤ 10 ^ l.length := Int.pow_nonneg (by omega)
    have := Int.mul_le_mul_of_nonneg_right (show 10 * n + ((c.toNat : Int) - 48) + 1 ≤ (n + 1) * 10 by omega) hp
    rw [Int.mul_assoc, Int.mul_comm 10 (10 ^ l.length)] at this
    exact this

theorem numVal_bd (l : List UInt8) (h : ∀ c ∈ l, 48 ≤ c.toNat ∧ c.toNat ≤ 57) : 0 ≤ numVal l ∧ numVal l < 10 ^ l.length := by
  have := num_fold l 0 (by omega) h
  rw [Int.zero_add, Int.one_mul] at this
  exact this

set_option maxHeartbeats 8000000 in
theorem head_num (B : Nat) (l : Toks) (d : Nat) (T : Res Ex) (i i1 : Nat) (e : Int) (tx : ByteArray) (_hsz : tx.size ≤ maxLen) (w : World) (h : EyeAt B l i e d w) (hs : seesB l i e [40] = false) (hs2 : seesB l i e [91] = false)
    (hone : ∀ W, EyeAt B l i e d W → Calls Tryz.prog 140 #[.pointer (some ⟨B, 0, none⟩)] W fun r w' => r = .returned (.agg #[.int .i64 2, .string tx]) ∧ EyeAt B l i1 e d w' ∧ Moved B W w')
    (he : e = 0) (hnum : numOk tx = true) (hT : T = .ok (exNum tx) i1) :
    Calls Tryz.prog 317 #[.pointer (some ⟨B, 0, none⟩)] w (ExprR B l d T w) := by
  have hz6 : tx.size ≤ 6 := by
    simp only [numOk, Bool.and_eq_true, isIn, decide_eq_true_eq] at hnum
    omega
  have hdig : ∀ k (hk : k < tx.size), 48 ≤ ((tx[k]'hk).toNat : Int) ∧ ((tx[k]'hk).toNat : Int) ≤ 57 := by
    intro k hk
    simp only [numOk, Bool.and_eq_true, allB_iff] at hnum
    have := digit_bd (hnum.1 k hk)
    rw [← byteAt_get tx k hk] at this
    exact this
  have hbd : ∀ k, k ≤ tx.size → 0 ≤ numVal (tx.data.toList.take k) ∧ numVal (tx.data.toList.take k) < 1000000 := by
    intro k hk
    have h1 := numVal_bd (tx.data.toList.take k) (fun c hc => by
      obtain ⟨j, hj, rfl⟩ := List.getElem_of_mem hc
      rw [List.length_take] at hj
      have hj' : j < tx.size := by rw [Lib.size_eq]; omega
      rw [List.getElem_take]
      have := hdig j hj'
      have e : ((tx[j]'hj').toNat : Int) = ((tx.data.toList[j]'(by rw [← Lib.size_eq]; exact hj')).toNat : Int) := rfl
      omega)
    have h2 : (10 : Int) ^ (tx.data.toList.take k).length ≤ 10 ^ 6 := by
      have : (tx.data.toList.take k).length ≤ 6 := by rw [List.length_take, ← Lib.size_eq]; omega
      exact_mod_cast Nat.pow_le_pow_right (by omega) this
    omega
  have hstep : ∀ k (hk : k < tx.size), numVal (tx.data.toList.take (k + 1)) = 10 * numVal (tx.data.toList.take k) + (((tx[k]'hk).toNat : Int) - 48) := by
    intro k hk
    have hl : k < tx.data.toList.length := by rw [← Lib.size_eq]; exact hk
    rw [List.take_succ_eq_append_getElem hl, numVal_snoc]
    rfl
  have HDig := veil hdig
  have HBd := veil hbd
  have HStep := veil hstep
  clear hdig hbd hstep hnum
  have hlt := ey_lt h
  have HA := veil (ey_alloc h (.cells #[.int .i64 0, .int .i64 0, .string ⟨#[]⟩, .string ⟨#[]⟩, .slice none 0 0] 87))
  have HM : Hid (Moved B w (w.alloc (.cells #[.int .i64 0, .int .i64 0, .string ⟨#[]⟩, .string ⟨#[]⟩, .slice none 0 0] 87))) := Moved.of_below ((Below.refl _ _).alloc (Nat.le_refl _) _) (by omega)
  have HSg : Hid (seesB l i e (ByteArray.mk #[40]).data.toList = false) := hs
  have HSg2 : Hid (seesB l i e (ByteArray.mk #[91]).data.toList = false) := hs2
  have HOne := veil hone
  have HT := veil hT
  have HE := veil he
  clear h hs hs2 hone hT he
  go_enter Tryz.func317, Tryz.ntmps317
  go_wp2_with fail
  refine (sees_eye B l i e _ ⟨#[40]⟩ _ HA.out).mono ?_
  rintro r w1 ⟨rfl, q1, q2⟩
  rw [HSg.out] at q1
  rw [HSg.out]
  have hE1 : EyeAt B l i e d w1 := q1
  have hs1 : w.heap.size + 1 ≤ w1.heap.size := by have := q2.below.size; simpa using this
  have HZ1 := veil ((q2.above w.heap.size hlt (by simp)).trans (heap_alloc_new w (.cells #[.int .i64 0, .int .i64 0, .string ⟨#[]⟩, .string ⟨#[]⟩, .slice none 0 0] 87)))
  have HM1 := veil (HM.out.trans q2)
  clear q1 q2
  go_wp2_with fail
  refine (sees_eye B l i e _ ⟨#[91]⟩ _ hE1).mono ?_
  rintro r w2 ⟨rfl, q1, q2⟩
  rw [HSg2.out] at q1
  rw [HSg2.out]
  have hE2 : EyeAt B l i e d w2 := q1
  have HX := veil (HOne.out w2 hE2)
  have hs2 := q2.below.size
  have HZ2 := veil ((q2.above w.heap.size hlt (by omega)).trans HZ1.out)
  have HM2 := veil (HM1.out.trans q2)
  clear q1 q2 hE1 hE2
  go_wp2_with fail
  refine HX.out.mono ?_
  rintro r w3 ⟨rfl, hE3, q2⟩
  have hs3 := q2.below.size
  have hz3 := (heap_alloc_old w3 (.cells #[.int .i64 2, .string tx] 199) (by omega)).trans ((q2.above w.heap.size hlt (by omega)).trans HZ2.out)
  have hM3 := (HM2.out.trans q2).alloc (by omega) (.cells #[.int .i64 2, .string tx] 199)
  have hE4 := ey_alloc hE3 (.cells #[.int .i64 2, .string tx] 199)
  have t0 : (w3.alloc (.cells #[.int .i64 2, .string tx] 199)).cell? ⟨w3.heap.size, 0, none⟩ = some (.int .i64 2) := World.cell?_alloc_at _ _ _ _ rfl
  have t1 : (w3.alloc (.cells #[.int .i64 2, .string tx] 199)).cell? ⟨w3.heap.size, 1, none⟩ = some (.string tx) := World.cell?_alloc_at _ _ _ _ rfl
  clear q2 hE3 HX HA HM HZ1 HM1 HZ2 HM2 HSg HSg2 HOne
  have HFin := veil (expr_fin (T := T) (ob := w.heap.size) (k := 1) (n := numVal tx.data.toList) (f := ⟨#[]⟩) (s := ⟨#[]⟩) (a := none) (m := 0) (c := 0) hE4 hM3 hlt hz3 (.inl ⟨HE.out, _, ex_leaf 1 _ empty_le empty_le, HT.out⟩))
  obtain ⟨⟨r0, r1, r2, r3, r4⟩, ⟨g0, g1, g2, g3, g4⟩⟩ := five_cells hz3
  clear hE4 hM3 hz3
  go_wp2_with fail
  go_loop [5, 6] (fun n i => ∃ k : Nat, k ≤ tx.size ∧ n = .int .i64 (numVal (tx.data.toList.take k)) ∧ i = .int .i64 k) (fun _ i => tx.size - (intOf i).toNat)
  case atStart => exact ⟨0, Nat.zero_le _, rfl, rfl⟩
  case round =>
    obtain ⟨k, hk, rfl, rfl⟩ := hrel
    by_cases hlt2 : k < tx.size
    · obtain ⟨d0, d1⟩ := HDig.out k hlt2
      obtain ⟨b0, b1⟩ := HBd.out k hk
      obtain ⟨b2, b3⟩ := HBd.out (k + 1) hlt2
      have HSt := veil (HStep.out k hlt2)
      rw [HSt.out] at b2 b3
      generalize numVal (tx.data.toList.take k) = nv at *
      have hlt3 : (k : Int) < (tx.size : Int) := by omega
      have hwr : IntKind.u8.wrap (((tx[k]'hlt2).toNat : Int) - 48) = ((tx[k]'hlt2).toNat : Int) - 48 := by
        unfold IntKind.wrap
        simp [IntKind.signed, IntKind.bits]
        omega
      go_wp2_with fail
      go_round
      · exact ⟨k + 1, by omega, by rw [HSt.out], by simp⟩
      · simp [intOf]; omega
    · have hk' : k = tx.size := by omega
      subst hk'
      have HN : Hid (tx.data.toList.take tx.size = tx.data.toList) := by show _ = _; rw [Lib.size_eq, List.take_length]
      rw [HN.out]
      go_wp2_with fail
      obtain ⟨F, hF, ⟨y0, y1, y2, y3, y4⟩, hR⟩ := HFin.out
      rw [hF]
      exact bodyPost_ret (v := .agg #[.int .i64 1, .int .i64 (numVal tx.data.toList), .string ⟨#[]⟩, .string ⟨#[]⟩, .slice none 0 0]) (by simp [results, Tryz.results317, go_sem, y0, y1, y2, y3, y4]) rfl hR

end Go.Proofs.YtagbaimfigljiaaGreatDoor
