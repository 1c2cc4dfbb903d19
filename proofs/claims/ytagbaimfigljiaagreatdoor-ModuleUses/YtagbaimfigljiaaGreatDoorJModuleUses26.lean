import Derived.Test.YtagbaimfigljiaaGreatDoorJModuleUses25
namespace Go.Proofs.YtagbaimfigljiaaGreatDoor
open Go.RowKit
set_option maxRecDepth 100000

theorem own_keepB {W W' : World} {base c n : Nat} {T : TypeId} {v : Value} {ys : List Value} (h : W.ownsRow base T c v n ys) (hk : ∀ b, base ≤ b → b < W.heap.size → W'.heap[b]? = W.heap[b]?) : W'.ownsRow base T c v n ys := by
  refine ⟨h.1, h.2.imp_right ?_⟩
  rintro ⟨g, cap, cur, rfl, hb, hg, hr⟩
  exact ⟨g, cap, cur, rfl, hb, (hk g hb (heap_lt' hg)).trans hg, hr⟩

theorem own_sets {base c n b : Nat} {T : TypeId} {v : Value} {ys : List Value} (hne : ¬ v.ownBlock = some b) (vs : List Value) (o : Nat) (W : World) (h : W.ownsRow base T c v n ys) : (W.setCells b o vs).ownsRow base T c v n ys := by
  refine ⟨h.1, h.2.imp_right ?_⟩
  rintro ⟨g, cap, cur, rfl, hb, hg, hr⟩
  exact ⟨g, cap, cur, rfl, hb, (sets_other (fun e => hne (by simp [Value.ownBlock, e])) vs o W).trans hg, hr⟩

theorem cell_five_at {W : World} {s : Nat} (hs : W.heap.size = s) {x y z u v : Value} {T : TypeId} (j : Nat) (q : Value) (h : [x, y, z, u, v][j]? = some q) : (W.alloc (.cells #[x, y, z, u, v] T)).cell? (Addr.add ⟨s, 0, none⟩ j) = some q := by
  subst hs
  exact cell_five_new W x y z u v T j q h

set_option maxHeartbeats 16000000 in
theorem fun_eye (B : Nat) (l : Toks) (i : Nat) (e : Int) (w : World) (h : EyeAt B l i e 0 w) :
    Calls Tryz.prog 144 #[.pointer (some ⟨B, 0, none⟩)] w (FunR B l (after e (pFun l i)) w) := by
  have hlt := ey_lt h
  have h200 : l.length ≤ 200 := by
    obtain ⟨_, _, _, _, _, _, _, _, _, _, h200, _⟩ := ey_cells h
    exact h200
  have HA := veil (ey_alloc h (.cells #[.string ⟨#[]⟩, .string ⟨#[]⟩, .slice none 0 0, .int .i64 0, .string ⟨#[]⟩, .string ⟨#[]⟩, .slice none 0 0, .int .i64 0, .int .i64 0, .string ⟨#[]⟩, .string ⟨#[]⟩, .slice none 0 0] 89))
  have HM : Hid (Moved B w (w.alloc (.cells #[.string ⟨#[]⟩, .string ⟨#[]⟩, .slice none 0 0, .int .i64 0, .string ⟨#[]⟩, .string ⟨#[]⟩, .slice none 0 0, .int .i64 0, .int .i64 0, .string ⟨#[]⟩, .string ⟨#[]⟩, .slice none 0 0] 89))) := Moved.of_below ((Below.refl _ _).alloc (Nat.le_refl _) _) (by omega)
  clear h
  go_enter Tryz.func144, Tryz.ntmps144
  go_wp2_with fail
  refine (ident_eye B l i e _ _ HA.out).mono ?_
  rintro r w1 hq
  obtain ⟨q2, n, j1, e1, rfl, hnz, q1, hid⟩ := ident_st hq
  have hs1 : w.heap.size + 1 ≤ w1.heap.size := by have := q2.below.size; simpa using this
  have hz1 := (q2.above w.heap.size hlt (by simp)).trans (heap_alloc_new w (.cells #[.string ⟨#[]⟩, .string ⟨#[]⟩, .slice none 0 0, .int .i64 0, .string ⟨#[]⟩, .string ⟨#[]⟩, .slice none 0 0, .int .i64 0, .int .i64 0, .string ⟨#[]⟩, .string ⟨#[]⟩, .slice none 0 0] 89))
  have HZ2 := veil ((heap_alloc_old w1 (.cells #[.string n, .string ⟨#[]⟩, .slice none 0 0, .int .i64 0, .string ⟨#[]⟩, .string ⟨#[]⟩, .slice none 0 0, .int .i64 0, .int .i64 0, .string ⟨#[]⟩, .string ⟨#[]⟩, .slice none 0 0] 89) (by omega)).trans hz1)
  have HM2 := veil ((HM.out.trans q2).alloc (by omega) (.cells #[.string n, .string ⟨#[]⟩, .slice none 0 0, .int .i64 0, .string ⟨#[]⟩, .string ⟨#[]⟩, .slice none 0 0, .int .i64 0, .int .i64 0, .string ⟨#[]⟩, .string ⟨#[]⟩, .slice none 0 0] 89))
  have hE2 := ey_alloc q1 (.cells #[.string n, .string ⟨#[]⟩, .slice none 0 0, .int .i64 0, .string ⟨#[]⟩, .string ⟨#[]⟩, .slice none 0 0, .int .i64 0, .int .i64 0, .string ⟨#[]⟩, .string ⟨#[]⟩, .slice none 0 0] 89)
  have HId := veil hid
  clear hq q1 q2 hz1 hid HA HM
  go_wp2_with fail
  rename_i K1 hK1 K2 hK2 K3 hK3
  have HREST : Hid (∀ (u9 u10 u11 u12 u13 u14 : Value) (W : World) (v : ByteArray) (j : Nat) (e0 : Int), v.size ≤ maxLen → EyeAt B l j e0 0 W → Moved B w W → w1.heap.size < W.heap.size → W.heap[w.heap.size]? = some (.cells #[.string ⟨#[]⟩, .string ⟨#[]⟩, .slice none 0 0, .int .i64 0, .string ⟨#[]⟩, .string ⟨#[]⟩, .slice none 0 0, .int .i64 0, .int .i64 0, .string ⟨#[]⟩, .string ⟨#[]⟩, .slice none 0 0] 89 (0, 0)) → W.heap[w1.heap.size]? = some (.cells #[.string n, .string v, .slice none 0 0, .int .i64 0, .string ⟨#[]⟩, .string ⟨#[]⟩, .slice none 0 0, .int .i64 0, .int .i64 0, .string ⟨#[]⟩, .string ⟨#[]⟩, .slice none 0 0] 89 (0, 0)) →
      ((e0 = 0 ∧ after e (pFun l i) = funRest l n v j) ∨ (e0 ≠ 0 ∧ after e (pFun l i) = .bad e0)) → K1 ⟨#[.pointer (some ⟨B, 0, none⟩), undef, .pointer (some ⟨w.heap.size, 0, none⟩), .pointer (some ⟨w1.heap.size, 0, none⟩), undef, .pointer (some ⟨B, 0, none⟩), .string n, .agg #[.string n, .string ⟨#[]⟩, .slice none 0 0, .int .i64 0, .string ⟨#[]⟩, .string ⟨#[]⟩, .slice none 0 0, .int .i64 0, .int .i64 0, .string ⟨#[]⟩, .string ⟨#[]⟩, .slice none 0 0], .pointer (some ⟨B, 0, none⟩), u9, u10, u11, u12, u13, u14, undef, undef, undef, undef, undef, undef, undef, undef, undef, undef, undef, undef, undef, undef, undef, undef, undef, undef, undef, undef, undef, undef, undef, undef, undef, undef, undef, undef, undef, undef, undef, undef, undef, undef, undef, undef, undef, undef, undef, undef, undef, undef, undef], []⟩ W) := by
    intro u9 u10 u11 u12 u13 u14 W v j e0 hvz hE hM hsW hz ho hres
    apply hK1
    clear hK1 hK2 hK3 HZ2 HM2 hE2 HId
    have HRes := veil hres
    have HM0 := veil hM
    have HZ0 := veil hz
    have HO0 := veil ho
    clear hres hM hz ho
    go_wp2_with fail
    refine (wants_eye B l j e0 _ ⟨#[40]⟩ _ hE).mono ?_
    rintro r wB ⟨rfl, q1, q2⟩
    have hsB := q2.below.size
    have HL : Hid (ParAt B l w1.heap.size w n v (after e (pFun l i)) (l.length + 1) wB) := by
      refine ⟨_, _, 0, 0, none, [], q1, HM0.out.trans q2, by omega, (q2.above w.heap.size hlt (by omega)).trans HZ0.out, (q2.above w1.heap.size (by omega) (by omega)).trans HO0.out, World.ownsRow_nil _ _ _ _, by omega, ?_⟩
      rcases HRes.out with ⟨rfl, hT⟩ | ⟨hne, hT⟩
      · cases hs : sgn l j [40] with
        | true =>
          rw [show seesB l j 0 (ByteArray.mk #[40]).data.toList = true from sees_is rfl hs]
          rw [funRest, if_pos hs] at hT
          exact .inl ⟨rfl, [], fun t ht => absurd ht (by simp), rfl, hT, by omega⟩
        | false =>
          rw [show seesB l j 0 (ByteArray.mk #[40]).data.toList = false from sees_is rfl hs]
          rw [funRest, if_neg (by rw [hs]; simp)] at hT
          exact .inr ⟨by decide, hT⟩
      · rw [sees_wrong hne, want_wrong hne]
        exact .inr ⟨hne, hT⟩
    clear q1 q2 hE HM0 HZ0 HO0 HRes
    go_wp2_with fail
    go_loopg [4] (l.length + 1) (fun g _ wx => ParAt B l w1.heap.size w n v (after e (pFun l i)) g wx)
    case atStart => exact HL.out
    case round =>
      clear HL
      obtain ⟨ex, jx, m, c, a, ys, hEx, hMx, hobx, hzx, hox, hown, hmg, hresx⟩ := hrel
      have hsx := heap_lt' hox
      have c2 : wr.cell? ⟨B, 2, none⟩ = some (.int .i64 ex) := by
        obtain ⟨_, _, _, _, c2, _⟩ := ey_cells hEx
        exact c2
      by_cases he : ex = 0
      · subst he
        go_wp2_with fail
        refine (sees_eye B l jx 0 _ ⟨#[41]⟩ _ hEx).mono ?_
        rintro r w2 ⟨rfl, q1, q2⟩
        have hs2 := q2.below.size
        have HMX := veil (hMx.trans q2)
        have HZX := veil ((q2.above w.heap.size hlt (by omega)).trans hzx)
        have HOX := veil ((q2.above w1.heap.size (by omega) hsx).trans hox)
        have hown2 := own_moved hown q2 (by omega)
        obtain ⟨xs, hit, hm, hT, hg⟩ : ∃ xs, Items FdC 5 (w1.heap.size + 1) xs (.slice a m c) ys w2 ∧ m = xs.length ∧ (after e (pFun l i)) = bindF (headP l gk xs jx) (finRes l n v) ∧ l.length - jx < gk := by
          rcases hresx with ⟨_, xs, hit, hm, hT, hg⟩ | ⟨hne, _⟩
          · exact ⟨xs, Items.keep (C := FdC) (fun hk h => fdC_keep hk h) hit hs2 (fun b hb hb2 _ => q2.above b (by omega) hb2), hm, hT, hg⟩
          · exact absurd rfl hne
        cases hsg : seesB l jx 0 (ByteArray.mk #[41]).data.toList with
        | true =>
          rw [hsg] at q1
          obtain ⟨eX, heX⟩ : ∃ eX : Int, eX = 0 := ⟨0, rfl⟩
          have hEX : EyeAt B l (jx + 1) eX 0 w2 := by rw [heX]; exact q1
          have hs : sgn l jx [41] = true := by simpa [seesB] using hsg
          have HX0 : Hid ((eX = 0 ∧ ∃ ps, SlAt (Fresh (w1.heap.size + 1) w2) (FdAt (Fresh (w1.heap.size + 1) w2) w2) 5 ps (.slice a m c) ∧ (after e (pFun l i)) = finRes l n v ps (jx + 1)) ∨ (eX ≠ 0 ∧ (after e (pFun l i)) = .bad eX)) := by
            exact .inl ⟨heX, xs, items_sl hit hown2 hm (by unfold maxLen; omega), by rw [hT]; unfold headP; rw [if_pos hs]; rfl⟩
          clear q1 q2 hEx hMx hzx hox hown hresx hown2 hit hm hT hg hs hsg c2 heX
          go_wp2_with fail
          refine (wants_eye B l (jx + 1) eX _ ⟨#[58]⟩ _ hEX).mono ?_
          rintro r wa ⟨rfl, q1, q2⟩
          have hsa := q2.below.size
          have HZa := veil ((q2.above w.heap.size hlt (by omega)).trans HZX.out)
          have HOa := veil ((q2.above w1.heap.size (by omega) (by omega)).trans HOX.out)
          have HMa := veil (HMX.out.trans q2)
          have HKa : Hid (Keeps (Fresh (w1.heap.size + 1) w2) (Fresh (w1.heap.size + 1) wa) w2 wa) := ⟨fun b hb => q2.above b (by have := hb.1; omega) hb.2, fun b hb => ⟨hb.1, Nat.lt_of_lt_of_le hb.2 hsa⟩⟩
          have hEa := q1
          clear q1 q2 hEX
          go_wp2_with fail
          refine (kind_all B l _ _ _ hEa).mono ?_
          rintro r wb ⟨q2, k, o, nn, a1, m1, c1, rfl, eb, jb, hEb, hrb⟩
          have hsb := q2.below.size
          have hzb := (q2.above w.heap.size hlt (by omega)).trans HZa.out
          have hob := (q2.above w1.heap.size (by omega) (by omega)).trans HOa.out
          have HKb : Hid (Keeps (Fresh (w1.heap.size + 1) wa) (Fresh (w1.heap.size + 1) wb) wa wb) := ⟨fun b hb => q2.above b (by have := hb.1; omega) hb.2, fun b hb => ⟨hb.1, Nat.lt_of_lt_of_le hb.2 hsb⟩⟩
          have HWc : Hid (∃ wc, ((((((((wb).setCell ⟨w1.heap.size, 3, none⟩ (.int .i64 k))).setCell ⟨w1.heap.size, 4, none⟩ (.string o))).setCell ⟨w1.heap.size, 5, none⟩ (.string nn))).setCell ⟨w1.heap.size, 6, none⟩ (.slice a1 m1 c1)) = wc ∧ EyeAt B l jb eb 0 wc ∧ Moved B w wc ∧ wc.heap[w.heap.size]? = some (.cells #[.string ⟨#[]⟩, .string ⟨#[]⟩, .slice none 0 0, .int .i64 0, .string ⟨#[]⟩, .string ⟨#[]⟩, .slice none 0 0, .int .i64 0, .int .i64 0, .string ⟨#[]⟩, .string ⟨#[]⟩, .slice none 0 0] 89 (0, 0)) ∧ wc.heap[w1.heap.size]? = some (.cells #[.string n, .string v, .slice a m c, .int .i64 k, .string o, .string nn, .slice a1 m1 c1, .int .i64 0, .int .i64 0, .string ⟨#[]⟩, .string ⟨#[]⟩, .slice none 0 0] 89 (0, 0)) ∧ wc.heap.size = wb.heap.size ∧ ∀ b, b ≠ w1.heap.size → wc.heap[b]? = wb.heap[b]?) := by
            obtain ⟨g1, g2⟩ := fars (c := w1.heap.size) (by omega) (by omega) [.int .i64 k, .string o, .string nn, .slice a1 m1 c1] 3 wb hEb (HMa.out.trans q2)
            exact ⟨_, rfl, g1, g2, (sets_other (by omega) [.int .i64 k, .string o, .string nn, .slice a1 m1 c1] 3 wb).trans hzb, block_set (block_set (block_set (block_set hob 3 _) 4 _) 5 _) 6 _, heap_size_setCells w1.heap.size [.int .i64 k, .string o, .string nn, .slice a1 m1 c1] 3 wb, fun b hb => sets_other hb [.int .i64 k, .string o, .string nn, .slice a1 m1 c1] 3 wb⟩
          have HRb := veil hrb
          have o3 := row_cell hob 3 _ rfl
          have x3 := Lib.frozen_of_heap hob 3
          have o4 := row_cell hob 4 _ rfl
          have x4 := Lib.frozen_of_heap hob 4
          have o5 := row_cell hob 5 _ rfl
          have x5 := Lib.frozen_of_heap hob 5
          have o6 := row_cell hob 6 _ rfl
          have x6 := Lib.frozen_of_heap hob 6
          clear q2 hzb hob hEb hrb hEa HZa HOa HMa
          go_wp2_with fail
          obtain ⟨wc, hwc, hEc, hMc, hzc, hoc, hsc, hkc⟩ := HWc.out
          rw [hwc]
          have HMc := veil hMc
          have HZc := veil hzc
          have HOc := veil hoc
          have HKc := veil hkc
          clear HWc hMc hzc hoc hkc hwc o3 o4 o5 o6 x3 x4 x5 x6
          refine (wants_eye B l jb eb _ ⟨#[61]⟩ _ hEc).mono ?_
          rintro r wd ⟨rfl, q1, q2⟩
          have hsd := q2.below.size
          have HZd := veil ((q2.above w.heap.size hlt (by omega)).trans HZc.out)
          have HOd := veil ((q2.above w1.heap.size (by omega) (by omega)).trans HOc.out)
          have HMd := veil (HMc.out.trans q2)
          have HKd : Hid (Keeps (OwnB (w.heap.size + 1) w1.heap.size wb) (OwnB (w.heap.size + 1) w1.heap.size wd) wb wd) := ⟨fun b hb => (q2.above b (by have := hb.1; omega) (by have := hb.2.1; omega)).trans (HKc.out b hb.2.2), fun b hb => ⟨hb.1, by have := hb.2.1; omega, hb.2.2⟩⟩
          have hEd := q1
          clear q1 q2 hEc HZc HOc HMc HKc
          go_wp2_with fail
          refine (eye_expr B l 40 0 rfl _ _ _ hEd).mono ?_
          rintro r we ⟨q2, k', n', o', s', a2, m2, c2, rfl, q1⟩
          obtain ⟨e4, j4, hE4, hr4⟩ := q1.state
          have hse := q2.below.size
          have hze := (q2.above w.heap.size hlt (by omega)).trans HZd.out
          have hoe := (q2.above w1.heap.size (by omega) (by omega)).trans HOd.out
          have hfin := fin_st HX0.out ⟨rfl, rfl⟩ HRb.out ⟨rfl, rfl⟩ hr4
          have HFin : Hid (∃ F, (World.setCells ((((((((((we).setCell ⟨w1.heap.size, 7, none⟩ (.int .i64 k'))).setCell ⟨w1.heap.size, 8, none⟩ (.int .i64 n'))).setCell ⟨w1.heap.size, 9, none⟩ (.string o'))).setCell ⟨w1.heap.size, 10, none⟩ (.string s'))).setCell ⟨w1.heap.size, 11, none⟩ (.slice a2 m2 c2)) w.heap.size 0 [.string n, .string v, .slice a m c, .int .i64 k, .string o, .string nn, .slice a1 m1 c1, .int .i64 k', .int .i64 n', .string o', .string s', .slice a2 m2 c2]) = F ∧ F.heap[w.heap.size]? = some (.cells #[.string n, .string v, .slice a m c, .int .i64 k, .string o, .string nn, .slice a1 m1 c1, .int .i64 k', .int .i64 n', .string o', .string s', .slice a2 m2 c2] 89 (0, 0)) ∧ FunR B l (after e (pFun l i)) w (.returned (.agg #[.string n, .string v, .slice a m c, .int .i64 k, .string o, .string nn, .slice a1 m1 c1, .int .i64 k', .int .i64 n', .string o', .string s', .slice a2 m2 c2])) F) := by
            obtain ⟨g1, g2⟩ := fars (c := w1.heap.size) (by omega) (by omega) [.int .i64 k', .int .i64 n', .string o', .string s', .slice a2 m2 c2] 7 we hE4 (HMd.out.trans q2)
            have hoth := fun b (hb : b ≠ w1.heap.size) => sets_other hb [.int .i64 k', .int .i64 n', .string o', .string s', .slice a2 m2 c2] 7 we
            have hsz := heap_size_setCells w1.heap.size [.int .i64 k', .int .i64 n', .string o', .string s', .slice a2 m2 c2] 7 we
            refine fun_fin (ob := w1.heap.size) g1 g2 hlt ((hoth _ (by omega)).trans hze) ?_
            rcases hfin with ⟨h0, ps, t, x, hps, ht, hx, hT⟩ | h
            · refine .inl ⟨h0, _, hT, _, _, _, _, _, _, _, _, _, _, _, _, _, _, _, _, rfl, hnz, hvz, ?_, ?_, ?_⟩
              · exact fdSl_keep ⟨fun b hb => (hoth b hb.2.2).trans (q2.above b (by have := hb.1; omega) hb.2.1), fun b hb => ⟨hb.1, Nat.lt_of_lt_of_eq (show b < we.heap.size by have := hb.2.1; omega) hsz.symm, hb.2.2⟩⟩ (fdSl_keep HKd.out (fdSl_keep ⟨fun _ _ => rfl, fun b hb => ⟨by have := hb.1; omega, hb.2, by have := hb.1; omega⟩⟩ (fdSl_keep HKb.out (fdSl_keep HKa.out hps))))
              · exact TyCs.keep ⟨fun b hb => (hoth b hb.2.2).trans (q2.above b (by have := hb.1; omega) hb.2.1), fun b hb => ⟨hb.1, Nat.lt_of_lt_of_eq (show b < we.heap.size by have := hb.2.1; omega) hsz.symm, hb.2.2⟩⟩ (TyCs.keep HKd.out (TyCs.keep ⟨fun _ _ => rfl, fun b hb => ⟨by have := hb.1; omega, hb.2, by have := hb.1; omega⟩⟩ ht))
              · exact hx.keep ⟨fun b hb => hoth b (by have := hb.1; omega), fun b hb => ⟨by have := hb.1; omega, Nat.lt_of_lt_of_eq hb.2 hsz.symm, by have := hb.1; omega⟩⟩
            · exact .inr h
          have o0 := row_cell hoe 0 _ rfl
          have o1 := row_cell hoe 1 _ rfl
          have o2 := row_cell hoe 2 _ rfl
          have o3 := row_cell hoe 3 _ rfl
          have o4 := row_cell hoe 4 _ rfl
          have o5 := row_cell hoe 5 _ rfl
          have o6 := row_cell hoe 6 _ rfl
          have o7 := row_cell hoe 7 _ rfl
          have o8 := row_cell hoe 8 _ rfl
          have o9 := row_cell hoe 9 _ rfl
          have o10 := row_cell hoe 10 _ rfl
          have o11 := row_cell hoe 11 _ rfl
          have x7 := Lib.frozen_of_heap hoe 7
          have x8 := Lib.frozen_of_heap hoe 8
          have x9 := Lib.frozen_of_heap hoe 9
          have x10 := Lib.frozen_of_heap hoe 10
          have x11 := Lib.frozen_of_heap hoe 11
          have r0 := row_cell hze 0 _ rfl
          have g0 := Lib.frozen_of_heap hze 0
          have r1 := row_cell hze 1 _ rfl
          have g1 := Lib.frozen_of_heap hze 1
          have r2 := row_cell hze 2 _ rfl
          have g2 := Lib.frozen_of_heap hze 2
          have r3 := row_cell hze 3 _ rfl
          have g3 := Lib.frozen_of_heap hze 3
          have r4 := row_cell hze 4 _ rfl
          have g4 := Lib.frozen_of_heap hze 4
          have r5 := row_cell hze 5 _ rfl
          have g5 := Lib.frozen_of_heap hze 5
          have r6 := row_cell hze 6 _ rfl
          have g6 := Lib.frozen_of_heap hze 6
          have r7 := row_cell hze 7 _ rfl
          have g7 := Lib.frozen_of_heap hze 7
          have r8 := row_cell hze 8 _ rfl
          have g8 := Lib.frozen_of_heap hze 8
          have r9 := row_cell hze 9 _ rfl
          have g9 := Lib.frozen_of_heap hze 9
          have r10 := row_cell hze 10 _ rfl
          have g10 := Lib.frozen_of_heap hze 10
          have r11 := row_cell hze 11 _ rfl
          have g11 := Lib.frozen_of_heap hze 11
          have b1 : w1.heap.size ≠ w.heap.size := by omega
          have b2 : w.heap.size ≠ w1.heap.size := by omega
          clear q1 q2 hze hoe hE4 hr4 hfin hEd HZd HOd HMd HKd HKa HKb HRb HX0 HZX HOX HMX
          go_wp2_with fail
          obtain ⟨F, hF, hrow, hR⟩ := HFin.out
          change bodyPost Tryz.prog Tryz.f144 _ Exit.ret _ (World.setCells ((((((((((we).setCell ⟨w1.heap.size, 7, none⟩ (.int .i64 k'))).setCell ⟨w1.heap.size, 8, none⟩ (.int .i64 n'))).setCell ⟨w1.heap.size, 9, none⟩ (.string o'))).setCell ⟨w1.heap.size, 10, none⟩ (.string s'))).setCell ⟨w1.heap.size, 11, none⟩ (.slice a2 m2 c2)) w.heap.size 0 [.string n, .string v, .slice a m c, .int .i64 k, .string o, .string nn, .slice a1 m1 c1, .int .i64 k', .int .i64 n', .string o', .string s', .slice a2 m2 c2])
          rw [hF]
          have y0 := row_cell hrow 0 _ rfl
          have y1 := row_cell hrow 1 _ rfl
          have y2 := row_cell hrow 2 _ rfl
          have y3 := row_cell hrow 3 _ rfl
          have y4 := row_cell hrow 4 _ rfl
          have y5 := row_cell hrow 5 _ rfl
          have y6 := row_cell hrow 6 _ rfl
          have y7 := row_cell hrow 7 _ rfl
          have y8 := row_cell hrow 8 _ rfl
          have y9 := row_cell hrow 9 _ rfl
          have y10 := row_cell hrow 10 _ rfl
          have y11 := row_cell hrow 11 _ rfl
          exact bodyPost_ret (v := .agg #[.string n, .string v, .slice a m c, .int .i64 k, .string o, .string nn, .slice a1 m1 c1, .int .i64 k', .int .i64 n', .string o', .string s', .slice a2 m2 c2]) (by simp [results, Tryz.results144, go_sem, y0, y1, y2, y3, y4, y5, y6, y7, y8, y9, y10, y11]) rfl hR
        | false =>
          rw [hsg] at q1
          have hE2 : EyeAt B l jx 0 0 w2 := q1
          have hs : sgn l jx [41] = false := by simpa [seesB] using hsg
          clear q1 q2 hEx hMx hzx hox hown hresx hsg c2
          obtain ⟨g, rfl⟩ : ∃ g, gk = g + 1 := ⟨gk - 1, by omega⟩
          have o2 := row_cell HOX.out 2 _ rfl
          obtain ⟨i0, hi0, hz0, hz1, hz2⟩ := info_parts fd_info
          by_cases hm0 : m = 0
          · subst hm0
            obtain ⟨eA, heA⟩ : ∃ eA : Int, eA = 0 := ⟨0, rfl⟩
            have hEA : EyeAt B l jx eA 0 w2 := by rw [heA]; exact hE2
            have HA0 : Hid ((eA = 0 ∧ ∃ xs, Items FdC 5 (w1.heap.size + 1) xs (.slice a 0 c) ys w2 ∧ 0 = xs.length ∧ (after e (pFun l i)) = bindF (nextP l g xs (pNamed l [58] jx)) (finRes l n v) ∧ l.length - jx < g + 1) ∨ (eA ≠ 0 ∧ (after e (pFun l i)) = .bad eA)) := by
              refine .inl ⟨heA, xs, hit, hm, ?_, hg⟩
              have hx0 : xs = [] := List.length_eq_zero_iff.1 (by omega)
              subst hx0
              rw [hT]; unfold headP; rw [if_neg (by rw [hs]; simp)]
              show bindF (pList (pNamed l [58]) l [41] (g + 1) [] jx) (finRes l n v) = _
              rw [pList_next]
            have HownA := veil hown2
            have HMA := HMX
            have HZA := HZX
            have HOA := HOX
            clear hE2 hown2 hit hm hT hg hs heA HMX HZX HOX
            go_wp2_with fail
            refine (ident_eye B l (jx) eA _ _ hEA).mono ?_
            rintro r wC hq
            obtain ⟨q2, nm, jC, eC, rfl, hnmz, q1, hid⟩ := ident_st hq
            have hsC := q2.below.size
            have HZC := veil ((heap_alloc_old wC (.cells #[.string nm, .int .i64 0, .string ⟨#[]⟩, .string ⟨#[]⟩, .slice none 0 0] 101) (by omega)).trans ((q2.above w.heap.size hlt (by omega)).trans HZA.out))
            have HOC := veil ((heap_alloc_old wC (.cells #[.string nm, .int .i64 0, .string ⟨#[]⟩, .string ⟨#[]⟩, .slice none 0 0] 101) (by omega)).trans ((q2.above w1.heap.size (by omega) (by omega)).trans HOA.out))
            have HMC := veil ((HMA.out.trans q2).alloc (by omega) (.cells #[.string nm, .int .i64 0, .string ⟨#[]⟩, .string ⟨#[]⟩, .slice none 0 0] 101))
            have HKC : Hid (∀ b, w1.heap.size + 1 ≤ b → b < w2.heap.size → (wC.alloc (.cells #[.string nm, .int .i64 0, .string ⟨#[]⟩, .string ⟨#[]⟩, .slice none 0 0] 101)).heap[b]? = w2.heap[b]?) := fun b hb hb2 => (heap_alloc_old wC (.cells #[.string nm, .int .i64 0, .string ⟨#[]⟩, .string ⟨#[]⟩, .slice none 0 0] 101) (by omega)).trans (q2.above b (by omega) hb2)
            have hEC := ey_alloc q1 (.cells #[.string nm, .int .i64 0, .string ⟨#[]⟩, .string ⟨#[]⟩, .slice none 0 0] 101)
            have HId := veil hid
            clear hq q1 q2 hid hEA HZA HOA HMA
            go_wp2_with fail
            refine (wants_eye B l jC eC _ ⟨#[58]⟩ _ hEC).mono ?_
            rintro r wD ⟨rfl, q1, q2⟩
            have hsD : wC.heap.size + 1 ≤ wD.heap.size := by have := q2.below.size; simpa using this
            have HZD := veil ((q2.above w.heap.size hlt (by simp; omega)).trans HZC.out)
            have HOD := veil ((q2.above w1.heap.size (by omega) (by simp; omega)).trans HOC.out)
            have HPD := veil ((q2.above wC.heap.size (by omega) (by simp)).trans (heap_alloc_new wC (.cells #[.string nm, .int .i64 0, .string ⟨#[]⟩, .string ⟨#[]⟩, .slice none 0 0] 101)))
            have HMD := veil (HMC.out.trans q2)
            have HKD : Hid (∀ b, w1.heap.size + 1 ≤ b → b < w2.heap.size → wD.heap[b]? = w2.heap[b]?) := fun b hb hb2 => (q2.above b (by omega) (by simp; omega)).trans (HKC.out b hb hb2)
            have hED := q1
            clear q1 q2 hEC HZC HOC HMC HKC
            go_wp2_with fail
            refine (kind_all B l _ _ _ hED).mono ?_
            rintro r wE ⟨q2, k, o, nn, a1, m1, c1, rfl, eE, jE, hEE, hrE⟩
            have hsE := q2.below.size
            have hzE := (q2.above w.heap.size hlt (by omega)).trans HZD.out
            have hoE := (q2.above w1.heap.size (by omega) (by omega)).trans HOD.out
            have hpE := (q2.above wC.heap.size (by omega) (by omega)).trans HPD.out
            have HKE : Hid (∀ b, w1.heap.size + 1 ≤ b → b < w2.heap.size → wE.heap[b]? = w2.heap[b]?) := fun b hb hb2 => (q2.above b (by omega) (by omega)).trans (HKD.out b hb hb2)
            have HownE := veil (own_keepB HownA.out HKE.out)
            have HRow := veil (ownsRow_in HownA.out)
            have HownS : Hid ((((((((((wE).setCell ⟨wC.heap.size, 1, none⟩ (.int .i64 k))).setCell ⟨wC.heap.size, 2, none⟩ (.string o))).setCell ⟨wC.heap.size, 3, none⟩ (.string nn))).setCell ⟨wC.heap.size, 4, none⟩ (.slice a1 m1 c1))).ownsRow (w1.heap.size + 1) 101 5 (.slice a 0 c) 0 ys) := own_sets (b := wC.heap.size) (fun h => by have := HRow.out _ h; omega) [.int .i64 k, .string o, .string nn, .slice a1 m1 c1] 1 wE HownE.out
            have HES : Hid (EyeAt B l jE eE 0 (((((((((wE).setCell ⟨wC.heap.size, 1, none⟩ (.int .i64 k))).setCell ⟨wC.heap.size, 2, none⟩ (.string o))).setCell ⟨wC.heap.size, 3, none⟩ (.string nn))).setCell ⟨wC.heap.size, 4, none⟩ (.slice a1 m1 c1)))) := (fars (c := wC.heap.size) (by omega) (by omega) [.int .i64 k, .string o, .string nn, .slice a1 m1 c1] 1 wE hEE (HMD.out.trans q2)).1
            have HMS : Hid (Moved B w (((((((((wE).setCell ⟨wC.heap.size, 1, none⟩ (.int .i64 k))).setCell ⟨wC.heap.size, 2, none⟩ (.string o))).setCell ⟨wC.heap.size, 3, none⟩ (.string nn))).setCell ⟨wC.heap.size, 4, none⟩ (.slice a1 m1 c1)))) := (fars (c := wC.heap.size) (by omega) (by omega) [.int .i64 k, .string o, .string nn, .slice a1 m1 c1] 1 wE hEE (HMD.out.trans q2)).2
            have HZS : Hid ((((((((((wE).setCell ⟨wC.heap.size, 1, none⟩ (.int .i64 k))).setCell ⟨wC.heap.size, 2, none⟩ (.string o))).setCell ⟨wC.heap.size, 3, none⟩ (.string nn))).setCell ⟨wC.heap.size, 4, none⟩ (.slice a1 m1 c1))).heap[w.heap.size]? = some (.cells #[.string ⟨#[]⟩, .string ⟨#[]⟩, .slice none 0 0, .int .i64 0, .string ⟨#[]⟩, .string ⟨#[]⟩, .slice none 0 0, .int .i64 0, .int .i64 0, .string ⟨#[]⟩, .string ⟨#[]⟩, .slice none 0 0] 89 (0, 0))) := (sets_other (by omega) [.int .i64 k, .string o, .string nn, .slice a1 m1 c1] 1 wE).trans hzE
            have HOS : Hid ((((((((((wE).setCell ⟨wC.heap.size, 1, none⟩ (.int .i64 k))).setCell ⟨wC.heap.size, 2, none⟩ (.string o))).setCell ⟨wC.heap.size, 3, none⟩ (.string nn))).setCell ⟨wC.heap.size, 4, none⟩ (.slice a1 m1 c1))).heap[w1.heap.size]? = some (.cells #[.string n, .string v, .slice a 0 c, .int .i64 0, .string ⟨#[]⟩, .string ⟨#[]⟩, .slice none 0 0, .int .i64 0, .int .i64 0, .string ⟨#[]⟩, .string ⟨#[]⟩, .slice none 0 0] 89 (0, 0))) := (sets_other (by omega) [.int .i64 k, .string o, .string nn, .slice a1 m1 c1] 1 wE).trans hoE
            have HSS : Hid ((((((((((wE).setCell ⟨wC.heap.size, 1, none⟩ (.int .i64 k))).setCell ⟨wC.heap.size, 2, none⟩ (.string o))).setCell ⟨wC.heap.size, 3, none⟩ (.string nn))).setCell ⟨wC.heap.size, 4, none⟩ (.slice a1 m1 c1))).heap.size = wE.heap.size) := heap_size_setCells wC.heap.size [.int .i64 k, .string o, .string nn, .slice a1 m1 c1] 1 wE
            have HKS : Hid (∀ b, b ≠ wC.heap.size → (((((((((wE).setCell ⟨wC.heap.size, 1, none⟩ (.int .i64 k))).setCell ⟨wC.heap.size, 2, none⟩ (.string o))).setCell ⟨wC.heap.size, 3, none⟩ (.string nn))).setCell ⟨wC.heap.size, 4, none⟩ (.slice a1 m1 c1))).heap[b]? = wE.heap[b]?) := fun b hb => sets_other hb [.int .i64 k, .string o, .string nn, .slice a1 m1 c1] 1 wE
            have HRE := veil hrE
            have o2 := row_cell hoE 2 _ rfl
            have p0 := row_cell hpE 0 _ rfl
            have f0 := Lib.frozen_of_heap hpE 0
            have p1 := row_cell hpE 1 _ rfl
            have f1 := Lib.frozen_of_heap hpE 1
            have p2 := row_cell hpE 2 _ rfl
            have f2 := Lib.frozen_of_heap hpE 2
            have p3 := row_cell hpE 3 _ rfl
            have f3 := Lib.frozen_of_heap hpE 3
            have p4 := row_cell hpE 4 _ rfl
            have f4 := Lib.frozen_of_heap hpE 4
            have d1 : w1.heap.size ≠ wC.heap.size := by omega
            have d2 : wC.heap.size ≠ w1.heap.size := by omega
            clear q2 hzE hoE hpE hEE hrE hED HZD HOD HPD HMD HKD
            go_wp2_with (at_builtin; refine wpList_append_lies _ rfl _ _ 41 rfl (w1.heap.size + 1) 101 i0 (.agg #[.string ⟨#[]⟩, .int .i64 0, .string ⟨#[]⟩, .string ⟨#[]⟩, .slice none 0 0]) 5 80 Tryz.underlying41 hi0 hz0 hz1 hz2 rfl (by decide) (.slice a 0 c) 0 ys rfl (HownS.out.alloc _) ⟨wE.heap.size, 0, none⟩ 1 1 [.string nm, .int .i64 k, .string o, .string nn, .slice a1 m1 c1] rfl rfl ?c1 ?c2 ?c3 ?c4 ?c5 ?c6 (wE.heap.size + 1) ?c7 ?_)
            case c1 => exact cell_five_at HSS.out
            case c2 =>
              intro u hu
              simp at hu
              rcases hu with rfl | rfl | rfl | rfl | rfl <;> rfl
            case c3 => omega
            case c4 => unfold maxLen; omega
            case c5 => omega
            case c6 => simp; omega
            case c7 => simp
            intro g1 cap1 w7 hown7 hgrow hat hlt7
            have HS7 := veil hgrow.size
            have hoW := (heap_alloc_old (((((((((wE).setCell ⟨wC.heap.size, 1, none⟩ (.int .i64 k))).setCell ⟨wC.heap.size, 2, none⟩ (.string o))).setCell ⟨wC.heap.size, 3, none⟩ (.string nn))).setCell ⟨wC.heap.size, 4, none⟩ (.slice a1 m1 c1))) (.cells #[.string nm, .int .i64 k, .string o, .string nn, .slice a1 m1 c1] 101) (by rw [HSS.out]; omega)).trans HOS.out
            have ho7 := (hgrow.block w1.heap.size (by simp; omega) (fun h => by have := HRow.out _ h.symm; omega)).trans hoW
            have z2 := row_cell ho7 2 _ rfl
            have zf := Lib.frozen_of_heap ho7 2
            have HO7 := veil ho7
            have HO8 := veil hown7
            have HGr := veil hgrow
            have HAt := veil hat
            clear hown7 hgrow hat hoW ho7
            go_wp2_with fail
            go_roundg g
            case measure => omega
            case rel =>
              have hs7 : wE.heap.size + 1 ≤ w7.heap.size := by have := HS7.out; simp at this; omega
              have hrowW : ∀ g', (Value.slice a 0 c).ownBlock = some g' → w1.heap.size + 1 ≤ g' ∧ g' < w2.heap.size := HRow.out
              refine ⟨eE, jE, 0 + 1, cap1, some ⟨g1, 0, none⟩, _, ey_far (ey_grown (ey_alloc HES.out _) HGr.out (fun g' hg' => by have := hrowW g' hg'; omega)) (c := w1.heap.size) (by omega) 2 _, mv_far (mv_grown (HMS.out.alloc (by rw [HSS.out]; omega) _) HGr.out hlt (fun g' hg' => by have := hrowW g' hg'; omega)) (c := w1.heap.size) (by omega) (by omega) 2 _, hobx, ?_, block_set HO7.out 2 _, ownsRow_setCell_below HO8.out (a := ⟨w1.heap.size, 2, none⟩) (by show w1.heap.size < w1.heap.size + 1; omega) _, by omega, ?_⟩
              · exact (Below.heap_setCell _ _ _ _ (by show w.heap.size ≠ w1.heap.size; omega)).trans ((HGr.out.block w.heap.size (by simp; omega) (fun h => by have := hrowW _ h.symm; omega)).trans ((heap_alloc_old _ _ (by rw [HSS.out]; omega)).trans HZS.out))
              · rcases HA0.out with ⟨hA, xs, hit, hm, hT, hg⟩ | ⟨hne, hT⟩
                · have hnm := named_st (s := ⟨#[58]⟩) HId.out HRE.out
                  rw [hA, after_ok] at hnm
                  rcases hnm with ⟨h0, t, ht, hp⟩ | ⟨hne, hp⟩
                  · have hlt4 := pNamed_lt hp
                    rw [show pNamed l [58] (jx) = .ok ⟨nm, t⟩ jE from hp] at hT
                    refine .inl ⟨h0, xs ++ [(⟨nm, t⟩ : Fd)], ?_, by simp [← hm], hT, by omega⟩
                    have hitE : Items FdC 5 (w1.heap.size + 1) xs (.slice a 0 c) ys wE := Items.keep (C := FdC) (fun hk h => fdC_keep hk h) hit (by omega) (fun b hb hb2 _ => HKE.out b hb hb2)
                    have hit8 : Items FdC 5 (w1.heap.size + 1) (xs ++ [(⟨nm, t⟩ : Fd)]) (.slice (some ⟨g1, 0, none⟩) (0 + 1) cap1) (ys ++ [.string nm, .int .i64 k, .string o, .string nn, .slice a1 m1 c1]) w7 := by
                      refine Items.push (C := FdC) (fun hk h => fdC_keep hk h) (s0 := wD.heap.size) (W := ((((((((wE).setCell ⟨wC.heap.size, 1, none⟩ (.int .i64 k))).setCell ⟨wC.heap.size, 2, none⟩ (.string o))).setCell ⟨wC.heap.size, 3, none⟩ (.string nn))).setCell ⟨wC.heap.size, 4, none⟩ (.slice a1 m1 c1))) (Items.keep (C := FdC) (fun hk h => fdC_keep hk h) hit (by rw [HSS.out]; omega) (fun b hb hb2 hne => (HKS.out b (by omega)).trans (HKE.out b hb hb2))) (by have := HownE.out.1; first | (rw [← hm]; exact this) | exact this) (fun g' hg' => by have := hrowW g' hg'; omega) (by omega) rfl ⟨_, _, _, _, _, _, rfl, hnmz, ht.keep ⟨fun b hb => HKS.out b (by have := hb.1; omega), fun b hb => ⟨hb.1, by rw [HSS.out]; exact hb.2⟩⟩⟩ (by rw [HSS.out]; omega) (fun b hb hne => ?_) (fun b hb => ?_)
                      · exact (HGr.out.block b (by simp; rw [HSS.out] at hb; omega) hne).trans (heap_alloc_old _ _ hb)
                      · have hb' : g1 = b := by simpa [Value.ownBlock] using hb
                        subst hb'
                        rcases HAt.out with h1 | h1
                        · exact .inl h1
                        · exact .inr (by rw [HSS.out]; omega)
                    exact Items.keep (C := FdC) (fun hk h => fdC_keep hk h) hit8 (by rw [heap_size_setCell]; exact Nat.le_refl _) (fun b hb _ _ => Below.heap_setCell _ _ _ _ (by show b ≠ w1.heap.size; omega))
                  · rw [show pNamed l [58] (jx) = .bad eE from hp] at hT
                    exact .inr ⟨hne, hT⟩
                · have hnm := named_st (s := ⟨#[58]⟩) HId.out HRE.out
                  rw [after_bad hne] at hnm
                  rcases hnm with ⟨_, t, _, hp⟩ | ⟨hne2, hp⟩
                  · cases hp
                  · injection hp with hp
                    exact .inr ⟨hne2, by rw [hT, hp]⟩
          · have hnm : (0 : Int) < (m : Int) := by omega
            have HT0 : Hid ((sgn l jx [44] = true → (after e (pFun l i)) = bindF (nextP l g xs (pNamed l [58] (jx + 1))) (finRes l n v)) ∧ (sgn l jx [44] = false → (after e (pFun l i)) = .bad 4)) := by
              have hx0 : ∃ y ys', xs = y :: ys' := by
                cases xs with
                | nil => exact absurd hm (by simpa using hm0)
                | cons y ys' => exact ⟨y, ys', rfl⟩
              obtain ⟨y, ys', hxe⟩ := hx0
              have hT2 : (after e (pFun l i)) = bindF (if sgn l jx [44] = true then pList (pNamed l [58]) l [41] (g + 1) xs (jx + 1) else .bad 4) (finRes l n v) := by
                rw [hT]; unfold headP; rw [if_neg (by rw [hs]; simp), hxe]
              refine ⟨fun h => ?_, fun h => ?_⟩
              · rw [hT2, if_pos h, pList_next]
              · rw [hT2, if_neg (by rw [h]; simp)]; rfl
            have HIt := veil hit
            have Hm := veil hm
            have Hown2 := veil hown2
            clear hit hT hs hown2
            go_wp2_with fail
            refine (wants_eye B l jx 0 _ ⟨#[44]⟩ _ hE2).mono ?_
            rintro r w9 ⟨rfl, q1, q2⟩
            have hs9 := q2.below.size
            have HMA := veil (HMX.out.trans q2)
            have HZA := veil ((q2.above w.heap.size hlt (by omega)).trans HZX.out)
            have HOA := veil ((q2.above w1.heap.size (by omega) (by omega)).trans HOX.out)
            have HownA := veil (own_moved Hown2.out q2 (by omega))
            have HA0 : Hid ((wantE (seesB l jx 0 (ByteArray.mk #[44]).data.toList) 0 = 0 ∧ ∃ xs, Items FdC 5 (w1.heap.size + 1) xs (.slice a m c) ys w9 ∧ m = xs.length ∧ (after e (pFun l i)) = bindF (nextP l g xs (pNamed l [58] (adv (seesB l jx 0 (ByteArray.mk #[44]).data.toList) jx))) (finRes l n v) ∧ l.length - (adv (seesB l jx 0 (ByteArray.mk #[44]).data.toList) jx) < g + 1) ∨ (wantE (seesB l jx 0 (ByteArray.mk #[44]).data.toList) 0 ≠ 0 ∧ (after e (pFun l i)) = .bad (wantE (seesB l jx 0 (ByteArray.mk #[44]).data.toList) 0))) := by
              cases h44 : sgn l jx [44] with
              | true =>
                rw [show seesB l jx 0 (ByteArray.mk #[44]).data.toList = true from sees_is rfl h44]
                exact .inl ⟨rfl, xs, Items.keep (C := FdC) (fun hk h => fdC_keep hk h) HIt.out hs9 (fun b hb hb2 _ => q2.above b (by omega) hb2), Hm.out, HT0.out.1 h44, by show l.length - (jx + 1) < g + 1; omega⟩
              | false =>
                rw [show seesB l jx 0 (ByteArray.mk #[44]).data.toList = false from sees_is rfl h44]
                exact .inr ⟨by decide, HT0.out.2 h44⟩
            have hEA := q1
            generalize adv (seesB l jx 0 (ByteArray.mk #[44]).data.toList) jx = jA at *
            generalize wantE (seesB l jx 0 (ByteArray.mk #[44]).data.toList) 0 = eA at *
            clear q1 q2 hE2 HIt Hm Hown2 HT0 HMX HZX HOX o2 hm hg
            go_wp2_with fail
            refine (ident_eye B l (jA) eA _ _ hEA).mono ?_
            rintro r wC hq
            obtain ⟨q2, nm, jC, eC, rfl, hnmz, q1, hid⟩ := ident_st hq
            have hsC := q2.below.size
            have HZC := veil ((heap_alloc_old wC (.cells #[.string nm, .int .i64 0, .string ⟨#[]⟩, .string ⟨#[]⟩, .slice none 0 0] 101) (by omega)).trans ((q2.above w.heap.size hlt (by omega)).trans HZA.out))
            have HOC := veil ((heap_alloc_old wC (.cells #[.string nm, .int .i64 0, .string ⟨#[]⟩, .string ⟨#[]⟩, .slice none 0 0] 101) (by omega)).trans ((q2.above w1.heap.size (by omega) (by omega)).trans HOA.out))
            have HMC := veil ((HMA.out.trans q2).alloc (by omega) (.cells #[.string nm, .int .i64 0, .string ⟨#[]⟩, .string ⟨#[]⟩, .slice none 0 0] 101))
            have HKC : Hid (∀ b, w1.heap.size + 1 ≤ b → b < w9.heap.size → (wC.alloc (.cells #[.string nm, .int .i64 0, .string ⟨#[]⟩, .string ⟨#[]⟩, .slice none 0 0] 101)).heap[b]? = w9.heap[b]?) := fun b hb hb2 => (heap_alloc_old wC (.cells #[.string nm, .int .i64 0, .string ⟨#[]⟩, .string ⟨#[]⟩, .slice none 0 0] 101) (by omega)).trans (q2.above b (by omega) hb2)
            have hEC := ey_alloc q1 (.cells #[.string nm, .int .i64 0, .string ⟨#[]⟩, .string ⟨#[]⟩, .slice none 0 0] 101)
            have HId := veil hid
            clear hq q1 q2 hid hEA HZA HOA HMA
            go_wp2_with fail
            refine (wants_eye B l jC eC _ ⟨#[58]⟩ _ hEC).mono ?_
            rintro r wD ⟨rfl, q1, q2⟩
            have hsD : wC.heap.size + 1 ≤ wD.heap.size := by have := q2.below.size; simpa using this
            have HZD := veil ((q2.above w.heap.size hlt (by simp; omega)).trans HZC.out)
            have HOD := veil ((q2.above w1.heap.size (by omega) (by simp; omega)).trans HOC.out)
            have HPD := veil ((q2.above wC.heap.size (by omega) (by simp)).trans (heap_alloc_new wC (.cells #[.string nm, .int .i64 0, .string ⟨#[]⟩, .string ⟨#[]⟩, .slice none 0 0] 101)))
            have HMD := veil (HMC.out.trans q2)
            have HKD : Hid (∀ b, w1.heap.size + 1 ≤ b → b < w9.heap.size → wD.heap[b]? = w9.heap[b]?) := fun b hb hb2 => (q2.above b (by omega) (by simp; omega)).trans (HKC.out b hb hb2)
            have hED := q1
            clear q1 q2 hEC HZC HOC HMC HKC
            go_wp2_with fail
            refine (kind_all B l _ _ _ hED).mono ?_
            rintro r wE ⟨q2, k, o, nn, a1, m1, c1, rfl, eE, jE, hEE, hrE⟩
            have hsE := q2.below.size
            have hzE := (q2.above w.heap.size hlt (by omega)).trans HZD.out
            have hoE := (q2.above w1.heap.size (by omega) (by omega)).trans HOD.out
            have hpE := (q2.above wC.heap.size (by omega) (by omega)).trans HPD.out
            have HKE : Hid (∀ b, w1.heap.size + 1 ≤ b → b < w9.heap.size → wE.heap[b]? = w9.heap[b]?) := fun b hb hb2 => (q2.above b (by omega) (by omega)).trans (HKD.out b hb hb2)
            have HownE := veil (own_keepB HownA.out HKE.out)
            have HRow := veil (ownsRow_in HownA.out)
            have HownS : Hid ((((((((((wE).setCell ⟨wC.heap.size, 1, none⟩ (.int .i64 k))).setCell ⟨wC.heap.size, 2, none⟩ (.string o))).setCell ⟨wC.heap.size, 3, none⟩ (.string nn))).setCell ⟨wC.heap.size, 4, none⟩ (.slice a1 m1 c1))).ownsRow (w1.heap.size + 1) 101 5 (.slice a m c) m ys) := own_sets (b := wC.heap.size) (fun h => by have := HRow.out _ h; omega) [.int .i64 k, .string o, .string nn, .slice a1 m1 c1] 1 wE HownE.out
            have HES : Hid (EyeAt B l jE eE 0 (((((((((wE).setCell ⟨wC.heap.size, 1, none⟩ (.int .i64 k))).setCell ⟨wC.heap.size, 2, none⟩ (.string o))).setCell ⟨wC.heap.size, 3, none⟩ (.string nn))).setCell ⟨wC.heap.size, 4, none⟩ (.slice a1 m1 c1)))) := (fars (c := wC.heap.size) (by omega) (by omega) [.int .i64 k, .string o, .string nn, .slice a1 m1 c1] 1 wE hEE (HMD.out.trans q2)).1
            have HMS : Hid (Moved B w (((((((((wE).setCell ⟨wC.heap.size, 1, none⟩ (.int .i64 k))).setCell ⟨wC.heap.size, 2, none⟩ (.string o))).setCell ⟨wC.heap.size, 3, none⟩ (.string nn))).setCell ⟨wC.heap.size, 4, none⟩ (.slice a1 m1 c1)))) := (fars (c := wC.heap.size) (by omega) (by omega) [.int .i64 k, .string o, .string nn, .slice a1 m1 c1] 1 wE hEE (HMD.out.trans q2)).2
            have HZS : Hid ((((((((((wE).setCell ⟨wC.heap.size, 1, none⟩ (.int .i64 k))).setCell ⟨wC.heap.size, 2, none⟩ (.string o))).setCell ⟨wC.heap.size, 3, none⟩ (.string nn))).setCell ⟨wC.heap.size, 4, none⟩ (.slice a1 m1 c1))).heap[w.heap.size]? = some (.cells #[.string ⟨#[]⟩, .string ⟨#[]⟩, .slice none 0 0, .int .i64 0, .string ⟨#[]⟩, .string ⟨#[]⟩, .slice none 0 0, .int .i64 0, .int .i64 0, .string ⟨#[]⟩, .string ⟨#[]⟩, .slice none 0 0] 89 (0, 0))) := (sets_other (by omega) [.int .i64 k, .string o, .string nn, .slice a1 m1 c1] 1 wE).trans hzE
            have HOS : Hid ((((((((((wE).setCell ⟨wC.heap.size, 1, none⟩ (.int .i64 k))).setCell ⟨wC.heap.size, 2, none⟩ (.string o))).setCell ⟨wC.heap.size, 3, none⟩ (.string nn))).setCell ⟨wC.heap.size, 4, none⟩ (.slice a1 m1 c1))).heap[w1.heap.size]? = some (.cells #[.string n, .string v, .slice a m c, .int .i64 0, .string ⟨#[]⟩, .string ⟨#[]⟩, .slice none 0 0, .int .i64 0, .int .i64 0, .string ⟨#[]⟩, .string ⟨#[]⟩, .slice none 0 0] 89 (0, 0))) := (sets_other (by omega) [.int .i64 k, .string o, .string nn, .slice a1 m1 c1] 1 wE).trans hoE
            have HSS : Hid ((((((((((wE).setCell ⟨wC.heap.size, 1, none⟩ (.int .i64 k))).setCell ⟨wC.heap.size, 2, none⟩ (.string o))).setCell ⟨wC.heap.size, 3, none⟩ (.string nn))).setCell ⟨wC.heap.size, 4, none⟩ (.slice a1 m1 c1))).heap.size = wE.heap.size) := heap_size_setCells wC.heap.size [.int .i64 k, .string o, .string nn, .slice a1 m1 c1] 1 wE
            have HKS : Hid (∀ b, b ≠ wC.heap.size → (((((((((wE).setCell ⟨wC.heap.size, 1, none⟩ (.int .i64 k))).setCell ⟨wC.heap.size, 2, none⟩ (.string o))).setCell ⟨wC.heap.size, 3, none⟩ (.string nn))).setCell ⟨wC.heap.size, 4, none⟩ (.slice a1 m1 c1))).heap[b]? = wE.heap[b]?) := fun b hb => sets_other hb [.int .i64 k, .string o, .string nn, .slice a1 m1 c1] 1 wE
            have HRE := veil hrE
            have o2 := row_cell hoE 2 _ rfl
            have p0 := row_cell hpE 0 _ rfl
            have f0 := Lib.frozen_of_heap hpE 0
            have p1 := row_cell hpE 1 _ rfl
            have f1 := Lib.frozen_of_heap hpE 1
            have p2 := row_cell hpE 2 _ rfl
            have f2 := Lib.frozen_of_heap hpE 2
            have p3 := row_cell hpE 3 _ rfl
            have f3 := Lib.frozen_of_heap hpE 3
            have p4 := row_cell hpE 4 _ rfl
            have f4 := Lib.frozen_of_heap hpE 4
            have d1 : w1.heap.size ≠ wC.heap.size := by omega
            have d2 : wC.heap.size ≠ w1.heap.size := by omega
            clear q2 hzE hoE hpE hEE hrE hED HZD HOD HPD HMD HKD
            go_wp2_with (at_builtin; refine wpList_append_lies _ rfl _ _ 41 rfl (w1.heap.size + 1) 101 i0 (.agg #[.string ⟨#[]⟩, .int .i64 0, .string ⟨#[]⟩, .string ⟨#[]⟩, .slice none 0 0]) 5 80 Tryz.underlying41 hi0 hz0 hz1 hz2 rfl (by decide) (.slice a m c) m ys rfl (HownS.out.alloc _) ⟨wE.heap.size, 0, none⟩ 1 1 [.string nm, .int .i64 k, .string o, .string nn, .slice a1 m1 c1] rfl rfl ?c1 ?c2 ?c3 ?c4 ?c5 ?c6 (wE.heap.size + 1) ?c7 ?_)
            case c1 => exact cell_five_at HSS.out
            case c2 =>
              intro u hu
              simp at hu
              rcases hu with rfl | rfl | rfl | rfl | rfl <;> rfl
            case c3 => omega
            case c4 => unfold maxLen; omega
            case c5 => omega
            case c6 => simp; omega
            case c7 => simp
            intro g1 cap1 w7 hown7 hgrow hat hlt7
            have HS7 := veil hgrow.size
            have hoW := (heap_alloc_old (((((((((wE).setCell ⟨wC.heap.size, 1, none⟩ (.int .i64 k))).setCell ⟨wC.heap.size, 2, none⟩ (.string o))).setCell ⟨wC.heap.size, 3, none⟩ (.string nn))).setCell ⟨wC.heap.size, 4, none⟩ (.slice a1 m1 c1))) (.cells #[.string nm, .int .i64 k, .string o, .string nn, .slice a1 m1 c1] 101) (by rw [HSS.out]; omega)).trans HOS.out
            have ho7 := (hgrow.block w1.heap.size (by simp; omega) (fun h => by have := HRow.out _ h.symm; omega)).trans hoW
            have z2 := row_cell ho7 2 _ rfl
            have zf := Lib.frozen_of_heap ho7 2
            have HO7 := veil ho7
            have HO8 := veil hown7
            have HGr := veil hgrow
            have HAt := veil hat
            clear hown7 hgrow hat hoW ho7
            go_wp2_with fail
            go_roundg g
            case measure => omega
            case rel =>
              have hs7 : wE.heap.size + 1 ≤ w7.heap.size := by have := HS7.out; simp at this; omega
              have hrowW : ∀ g', (Value.slice a m c).ownBlock = some g' → w1.heap.size + 1 ≤ g' ∧ g' < w9.heap.size := HRow.out
              refine ⟨eE, jE, m + 1, cap1, some ⟨g1, 0, none⟩, _, ey_far (ey_grown (ey_alloc HES.out _) HGr.out (fun g' hg' => by have := hrowW g' hg'; omega)) (c := w1.heap.size) (by omega) 2 _, mv_far (mv_grown (HMS.out.alloc (by rw [HSS.out]; omega) _) HGr.out hlt (fun g' hg' => by have := hrowW g' hg'; omega)) (c := w1.heap.size) (by omega) (by omega) 2 _, hobx, ?_, block_set HO7.out 2 _, ownsRow_setCell_below HO8.out (a := ⟨w1.heap.size, 2, none⟩) (by show w1.heap.size < w1.heap.size + 1; omega) _, by omega, ?_⟩
              · exact (Below.heap_setCell _ _ _ _ (by show w.heap.size ≠ w1.heap.size; omega)).trans ((HGr.out.block w.heap.size (by simp; omega) (fun h => by have := hrowW _ h.symm; omega)).trans ((heap_alloc_old _ _ (by rw [HSS.out]; omega)).trans HZS.out))
              · rcases HA0.out with ⟨hA, xs, hit, hm, hT, hg⟩ | ⟨hne, hT⟩
                · have hnm := named_st (s := ⟨#[58]⟩) HId.out HRE.out
                  rw [hA, after_ok] at hnm
                  rcases hnm with ⟨h0, t, ht, hp⟩ | ⟨hne, hp⟩
                  · have hlt4 := pNamed_lt hp
                    rw [show pNamed l [58] (jA) = .ok ⟨nm, t⟩ jE from hp] at hT
                    refine .inl ⟨h0, xs ++ [(⟨nm, t⟩ : Fd)], ?_, by simp [← hm], hT, by omega⟩
                    have hitE : Items FdC 5 (w1.heap.size + 1) xs (.slice a m c) ys wE := Items.keep (C := FdC) (fun hk h => fdC_keep hk h) hit (by omega) (fun b hb hb2 _ => HKE.out b hb hb2)
                    have hit8 : Items FdC 5 (w1.heap.size + 1) (xs ++ [(⟨nm, t⟩ : Fd)]) (.slice (some ⟨g1, 0, none⟩) (m + 1) cap1) (ys ++ [.string nm, .int .i64 k, .string o, .string nn, .slice a1 m1 c1]) w7 := by
                      refine Items.push (C := FdC) (fun hk h => fdC_keep hk h) (s0 := wD.heap.size) (W := ((((((((wE).setCell ⟨wC.heap.size, 1, none⟩ (.int .i64 k))).setCell ⟨wC.heap.size, 2, none⟩ (.string o))).setCell ⟨wC.heap.size, 3, none⟩ (.string nn))).setCell ⟨wC.heap.size, 4, none⟩ (.slice a1 m1 c1))) (Items.keep (C := FdC) (fun hk h => fdC_keep hk h) hit (by rw [HSS.out]; omega) (fun b hb hb2 hne => (HKS.out b (by omega)).trans (HKE.out b hb hb2))) (by have := HownE.out.1; first | (rw [← hm]; exact this) | exact this) (fun g' hg' => by have := hrowW g' hg'; omega) (by omega) rfl ⟨_, _, _, _, _, _, rfl, hnmz, ht.keep ⟨fun b hb => HKS.out b (by have := hb.1; omega), fun b hb => ⟨hb.1, by rw [HSS.out]; exact hb.2⟩⟩⟩ (by rw [HSS.out]; omega) (fun b hb hne => ?_) (fun b hb => ?_)
                      · exact (HGr.out.block b (by simp; rw [HSS.out] at hb; omega) hne).trans (heap_alloc_old _ _ hb)
                      · have hb' : g1 = b := by simpa [Value.ownBlock] using hb
                        subst hb'
                        rcases HAt.out with h1 | h1
                        · exact .inl h1
                        · exact .inr (by rw [HSS.out]; omega)
                    exact Items.keep (C := FdC) (fun hk h => fdC_keep hk h) hit8 (by rw [heap_size_setCell]; exact Nat.le_refl _) (fun b hb _ _ => Below.heap_setCell _ _ _ _ (by show b ≠ w1.heap.size; omega))
                  · rw [show pNamed l [58] (jA) = .bad eE from hp] at hT
                    exact .inr ⟨hne, hT⟩
                · have hnm := named_st (s := ⟨#[58]⟩) HId.out HRE.out
                  rw [after_bad hne] at hnm
                  rcases hnm with ⟨_, t, _, hp⟩ | ⟨hne2, hp⟩
                  · cases hp
                  · injection hp with hp
                    exact .inr ⟨hne2, by rw [hT, hp]⟩
      · have hne' : (ex == 0) = false := beq_eq_false_iff_ne.2 he
        have HMX := veil hMx
        have HZX := veil hzx
        have HOX := veil hox
        have hEX := hEx
        have HX0 : Hid ((ex = 0 ∧ ∃ ps, SlAt (Fresh (w1.heap.size + 1) wr) (FdAt (Fresh (w1.heap.size + 1) wr) wr) 5 ps (.slice a m c) ∧ (after e (pFun l i)) = finRes l n v ps (jx)) ∨ (ex ≠ 0 ∧ (after e (pFun l i)) = .bad ex)) := by
          exact .inr ⟨he, hresx.elim (fun h => absurd h.1 he) (fun h => h.2)⟩
        clear hEx hMx hzx hox hown hresx he
        go_wp2_with fail
        refine (wants_eye B l (jx) ex _ ⟨#[58]⟩ _ hEX).mono ?_
        rintro r wa ⟨rfl, q1, q2⟩
        have hsa := q2.below.size
        have HZa := veil ((q2.above w.heap.size hlt (by omega)).trans HZX.out)
        have HOa := veil ((q2.above w1.heap.size (by omega) (by omega)).trans HOX.out)
        have HMa := veil (HMX.out.trans q2)
        have HKa : Hid (Keeps (Fresh (w1.heap.size + 1) wr) (Fresh (w1.heap.size + 1) wa) wr wa) := ⟨fun b hb => q2.above b (by have := hb.1; omega) hb.2, fun b hb => ⟨hb.1, Nat.lt_of_lt_of_le hb.2 hsa⟩⟩
        have hEa := q1
        clear q1 q2 hEX
        go_wp2_with fail
        refine (kind_all B l _ _ _ hEa).mono ?_
        rintro r wb ⟨q2, k, o, nn, a1, m1, c1, rfl, eb, jb, hEb, hrb⟩
        have hsb := q2.below.size
        have hzb := (q2.above w.heap.size hlt (by omega)).trans HZa.out
        have hob := (q2.above w1.heap.size (by omega) (by omega)).trans HOa.out
        have HKb : Hid (Keeps (Fresh (w1.heap.size + 1) wa) (Fresh (w1.heap.size + 1) wb) wa wb) := ⟨fun b hb => q2.above b (by have := hb.1; omega) hb.2, fun b hb => ⟨hb.1, Nat.lt_of_lt_of_le hb.2 hsb⟩⟩
        have HWc : Hid (∃ wc, ((((((((wb).setCell ⟨w1.heap.size, 3, none⟩ (.int .i64 k))).setCell ⟨w1.heap.size, 4, none⟩ (.string o))).setCell ⟨w1.heap.size, 5, none⟩ (.string nn))).setCell ⟨w1.heap.size, 6, none⟩ (.slice a1 m1 c1)) = wc ∧ EyeAt B l jb eb 0 wc ∧ Moved B w wc ∧ wc.heap[w.heap.size]? = some (.cells #[.string ⟨#[]⟩, .string ⟨#[]⟩, .slice none 0 0, .int .i64 0, .string ⟨#[]⟩, .string ⟨#[]⟩, .slice none 0 0, .int .i64 0, .int .i64 0, .string ⟨#[]⟩, .string ⟨#[]⟩, .slice none 0 0] 89 (0, 0)) ∧ wc.heap[w1.heap.size]? = some (.cells #[.string n, .string v, .slice a m c, .int .i64 k, .string o, .string nn, .slice a1 m1 c1, .int .i64 0, .int .i64 0, .string ⟨#[]⟩, .string ⟨#[]⟩, .slice none 0 0] 89 (0, 0)) ∧ wc.heap.size = wb.heap.size ∧ ∀ b, b ≠ w1.heap.size → wc.heap[b]? = wb.heap[b]?) := by
          obtain ⟨g1, g2⟩ := fars (c := w1.heap.size) (by omega) (by omega) [.int .i64 k, .string o, .string nn, .slice a1 m1 c1] 3 wb hEb (HMa.out.trans q2)
          exact ⟨_, rfl, g1, g2, (sets_other (by omega) [.int .i64 k, .string o, .string nn, .slice a1 m1 c1] 3 wb).trans hzb, block_set (block_set (block_set (block_set hob 3 _) 4 _) 5 _) 6 _, heap_size_setCells w1.heap.size [.int .i64 k, .string o, .string nn, .slice a1 m1 c1] 3 wb, fun b hb => sets_other hb [.int .i64 k, .string o, .string nn, .slice a1 m1 c1] 3 wb⟩
        have HRb := veil hrb
        have o3 := row_cell hob 3 _ rfl
        have x3 := Lib.frozen_of_heap hob 3
        have o4 := row_cell hob 4 _ rfl
        have x4 := Lib.frozen_of_heap hob 4
        have o5 := row_cell hob 5 _ rfl
        have x5 := Lib.frozen_of_heap hob 5
        have o6 := row_cell hob 6 _ rfl
        have x6 := Lib.frozen_of_heap hob 6
        clear q2 hzb hob hEb hrb hEa HZa HOa HMa
        go_wp2_with fail
        obtain ⟨wc, hwc, hEc, hMc, hzc, hoc, hsc, hkc⟩ := HWc.out
        rw [hwc]
        have HMc := veil hMc
        have HZc := veil hzc
        have HOc := veil hoc
        have HKc := veil hkc
        clear HWc hMc hzc hoc hkc hwc o3 o4 o5 o6 x3 x4 x5 x6
        refine (wants_eye B l jb eb _ ⟨#[61]⟩ _ hEc).mono ?_
        rintro r wd ⟨rfl, q1, q2⟩
        have hsd := q2.below.size
        have HZd := veil ((q2.above w.heap.size hlt (by omega)).trans HZc.out)
        have HOd := veil ((q2.above w1.heap.size (by omega) (by omega)).trans HOc.out)
        have HMd := veil (HMc.out.trans q2)
        have HKd : Hid (Keeps (OwnB (w.heap.size + 1) w1.heap.size wb) (OwnB (w.heap.size + 1) w1.heap.size wd) wb wd) := ⟨fun b hb => (q2.above b (by have := hb.1; omega) (by have := hb.2.1; omega)).trans (HKc.out b hb.2.2), fun b hb => ⟨hb.1, by have := hb.2.1; omega, hb.2.2⟩⟩
        have hEd := q1
        clear q1 q2 hEc HZc HOc HMc HKc
        go_wp2_with fail
        refine (eye_expr B l 40 0 rfl _ _ _ hEd).mono ?_
        rintro r we ⟨q2, k', n', o', s', a2, m2, c2, rfl, q1⟩
        obtain ⟨e4, j4, hE4, hr4⟩ := q1.state
        have hse := q2.below.size
        have hze := (q2.above w.heap.size hlt (by omega)).trans HZd.out
        have hoe := (q2.above w1.heap.size (by omega) (by omega)).trans HOd.out
        have hfin := fin_st HX0.out ⟨rfl, rfl⟩ HRb.out ⟨rfl, rfl⟩ hr4
        have HFin : Hid (∃ F, (World.setCells ((((((((((we).setCell ⟨w1.heap.size, 7, none⟩ (.int .i64 k'))).setCell ⟨w1.heap.size, 8, none⟩ (.int .i64 n'))).setCell ⟨w1.heap.size, 9, none⟩ (.string o'))).setCell ⟨w1.heap.size, 10, none⟩ (.string s'))).setCell ⟨w1.heap.size, 11, none⟩ (.slice a2 m2 c2)) w.heap.size 0 [.string n, .string v, .slice a m c, .int .i64 k, .string o, .string nn, .slice a1 m1 c1, .int .i64 k', .int .i64 n', .string o', .string s', .slice a2 m2 c2]) = F ∧ F.heap[w.heap.size]? = some (.cells #[.string n, .string v, .slice a m c, .int .i64 k, .string o, .string nn, .slice a1 m1 c1, .int .i64 k', .int .i64 n', .string o', .string s', .slice a2 m2 c2] 89 (0, 0)) ∧ FunR B l (after e (pFun l i)) w (.returned (.agg #[.string n, .string v, .slice a m c, .int .i64 k, .string o, .string nn, .slice a1 m1 c1, .int .i64 k', .int .i64 n', .string o', .string s', .slice a2 m2 c2])) F) := by
          obtain ⟨g1, g2⟩ := fars (c := w1.heap.size) (by omega) (by omega) [.int .i64 k', .int .i64 n', .string o', .string s', .slice a2 m2 c2] 7 we hE4 (HMd.out.trans q2)
          have hoth := fun b (hb : b ≠ w1.heap.size) => sets_other hb [.int .i64 k', .int .i64 n', .string o', .string s', .slice a2 m2 c2] 7 we
          have hsz := heap_size_setCells w1.heap.size [.int .i64 k', .int .i64 n', .string o', .string s', .slice a2 m2 c2] 7 we
          refine fun_fin (ob := w1.heap.size) g1 g2 hlt ((hoth _ (by omega)).trans hze) ?_
          rcases hfin with ⟨h0, ps, t, x, hps, ht, hx, hT⟩ | h
          · refine .inl ⟨h0, _, hT, _, _, _, _, _, _, _, _, _, _, _, _, _, _, _, _, rfl, hnz, hvz, ?_, ?_, ?_⟩
            · exact fdSl_keep ⟨fun b hb => (hoth b hb.2.2).trans (q2.above b (by have := hb.1; omega) hb.2.1), fun b hb => ⟨hb.1, Nat.lt_of_lt_of_eq (show b < we.heap.size by have := hb.2.1; omega) hsz.symm, hb.2.2⟩⟩ (fdSl_keep HKd.out (fdSl_keep ⟨fun _ _ => rfl, fun b hb => ⟨by have := hb.1; omega, hb.2, by have := hb.1; omega⟩⟩ (fdSl_keep HKb.out (fdSl_keep HKa.out hps))))
            · exact TyCs.keep ⟨fun b hb => (hoth b hb.2.2).trans (q2.above b (by have := hb.1; omega) hb.2.1), fun b hb => ⟨hb.1, Nat.lt_of_lt_of_eq (show b < we.heap.size by have := hb.2.1; omega) hsz.symm, hb.2.2⟩⟩ (TyCs.keep HKd.out (TyCs.keep ⟨fun _ _ => rfl, fun b hb => ⟨by have := hb.1; omega, hb.2, by have := hb.1; omega⟩⟩ ht))
            · exact hx.keep ⟨fun b hb => hoth b (by have := hb.1; omega), fun b hb => ⟨by have := hb.1; omega, Nat.lt_of_lt_of_eq hb.2 hsz.symm, by have := hb.1; omega⟩⟩
          · exact .inr h
        have o0 := row_cell hoe 0 _ rfl
        have o1 := row_cell hoe 1 _ rfl
        have o2 := row_cell hoe 2 _ rfl
        have o3 := row_cell hoe 3 _ rfl
        have o4 := row_cell hoe 4 _ rfl
        have o5 := row_cell hoe 5 _ rfl
        have o6 := row_cell hoe 6 _ rfl
        have o7 := row_cell hoe 7 _ rfl
        have o8 := row_cell hoe 8 _ rfl
        have o9 := row_cell hoe 9 _ rfl
        have o10 := row_cell hoe 10 _ rfl
        have o11 := row_cell hoe 11 _ rfl
        have x7 := Lib.frozen_of_heap hoe 7
        have x8 := Lib.frozen_of_heap hoe 8
        have x9 := Lib.frozen_of_heap hoe 9
        have x10 := Lib.frozen_of_heap hoe 10
        have x11 := Lib.frozen_of_heap hoe 11
        have r0 := row_cell hze 0 _ rfl
        have g0 := Lib.frozen_of_heap hze 0
        have r1 := row_cell hze 1 _ rfl
        have g1 := Lib.frozen_of_heap hze 1
        have r2 := row_cell hze 2 _ rfl
        have g2 := Lib.frozen_of_heap hze 2
        have r3 := row_cell hze 3 _ rfl
        have g3 := Lib.frozen_of_heap hze 3
        have r4 := row_cell hze 4 _ rfl
        have g4 := Lib.frozen_of_heap hze 4
        have r5 := row_cell hze 5 _ rfl
        have g5 := Lib.frozen_of_heap hze 5
        have r6 := row_cell hze 6 _ rfl
        have g6 := Lib.frozen_of_heap hze 6
        have r7 := row_cell hze 7 _ rfl
        have g7 := Lib.frozen_of_heap hze 7
        have r8 := row_cell hze 8 _ rfl
        have g8 := Lib.frozen_of_heap hze 8
        have r9 := row_cell hze 9 _ rfl
        have g9 := Lib.frozen_of_heap hze 9
        have r10 := row_cell hze 10 _ rfl
        have g10 := Lib.frozen_of_heap hze 10
        have r11 := row_cell hze 11 _ rfl
        have g11 := Lib.frozen_of_heap hze 11
        have b1 : w1.heap.size ≠ w.heap.size := by omega
        have b2 : w.heap.size ≠ w1.heap.size := by omega
        clear q1 q2 hze hoe hE4 hr4 hfin hEd HZd HOd HMd HKd HKa HKb HRb HX0 HZX HOX HMX
        go_wp2_with fail
        obtain ⟨F, hF, hrow, hR⟩ := HFin.out
        change bodyPost Tryz.prog Tryz.f144 _ Exit.ret _ (World.setCells ((((((((((we).setCell ⟨w1.heap.size, 7, none⟩ (.int .i64 k'))).setCell ⟨w1.heap.size, 8, none⟩ (.int .i64 n'))).setCell ⟨w1.heap.size, 9, none⟩ (.string o'))).setCell ⟨w1.heap.size, 10, none⟩ (.string s'))).setCell ⟨w1.heap.size, 11, none⟩ (.slice a2 m2 c2)) w.heap.size 0 [.string n, .string v, .slice a m c, .int .i64 k, .string o, .string nn, .slice a1 m1 c1, .int .i64 k', .int .i64 n', .string o', .string s', .slice a2 m2 c2])
        rw [hF]
        have y0 := row_cell hrow 0 _ rfl
        have y1 := row_cell hrow 1 _ rfl
        have y2 := row_cell hrow 2 _ rfl
        have y3 := row_cell hrow 3 _ rfl
        have y4 := row_cell hrow 4 _ rfl
        have y5 := row_cell hrow 5 _ rfl
        have y6 := row_cell hrow 6 _ rfl
        have y7 := row_cell hrow 7 _ rfl
        have y8 := row_cell hrow 8 _ rfl
        have y9 := row_cell hrow 9 _ rfl
        have y10 := row_cell hrow 10 _ rfl
        have y11 := row_cell hrow 11 _ rfl
        exact bodyPost_ret (v := .agg #[.string n, .string v, .slice a m c, .int .i64 k, .string o, .string nn, .slice a1 m1 c1, .int .i64 k', .int .i64 n', .string o', .string s', .slice a2 m2 c2]) (by simp [results, Tryz.results144, go_sem, y0, y1, y2, y3, y4, y5, y6, y7, y8, y9, y10, y11]) rfl hR
  have HS1 : Hid ((e1 = 0 ∧ (after e (pFun l i)) = (match pVar l j1 with
      | .bad e => .bad e
      | .ok v j => funRest l n v j)) ∨ (e1 ≠ 0 ∧ (after e (pFun l i)) = .bad e1)) := by
    rcases HId.out with ⟨rfl, hi, rfl, rfl⟩ | ⟨hb, rfl⟩
    · refine .inl ⟨rfl, ?_⟩
      rw [after_ok, pFun_rest, hi]
      cases pVar l (i + 1) <;> rfl
    · refine .inr ⟨first_ne e, ?_⟩
      by_cases h0 : e = 0
      · subst h0
        rw [after_ok, pFun_rest, hb.resolve_left (by simp)]
        rfl
      · rw [after_bad h0]
        unfold firstOf
        rw [if_neg h0]
  clear hK1
  refine (sees_eye B l j1 e1 _ ⟨#[60]⟩ _ hE2).mono ?_
  rintro r w3 ⟨rfl, q1, q2⟩
  have hs3 : w1.heap.size + 1 ≤ w3.heap.size := by have := q2.below.size; simpa using this
  have HZ3 := veil ((q2.above w.heap.size hlt (by simp; omega)).trans HZ2.out)
  have ho3 := (q2.above w1.heap.size (by omega) (by simp)).trans (heap_alloc_new w1 (.cells #[.string n, .string ⟨#[]⟩, .slice none 0 0, .int .i64 0, .string ⟨#[]⟩, .string ⟨#[]⟩, .slice none 0 0, .int .i64 0, .int .i64 0, .string ⟨#[]⟩, .string ⟨#[]⟩, .slice none 0 0] 89))
  have HM3 := veil (HM2.out.trans q2)
  cases hsg : seesB l j1 e1 (ByteArray.mk #[60]).data.toList with
  | false =>
    rw [hsg] at q1
    have HE3 := veil (show EyeAt B l j1 e1 0 w3 from q1)
    have HO3 := veil ho3
    have HR3 : Hid ((e1 = 0 ∧ (after e (pFun l i)) = funRest l n ⟨#[]⟩ j1) ∨ (e1 ≠ 0 ∧ (after e (pFun l i)) = .bad e1)) := by
      rcases HS1.out with ⟨h0, hT⟩ | h
      · have hs : sgn l j1 [60] = false := by
          have : (decide (e1 = 0) && sgn l j1 [60]) = false := hsg
          rw [h0] at this
          simpa using this
        refine .inl ⟨h0, ?_⟩
        rw [hT, pVar, if_neg (by rw [hs]; simp)]
        rfl
      · exact .inr h
    clear q1 q2 hsg ho3 hE2 HId HZ2 HM2 HS1
    go_wp2_with fail
    exact HREST.out _ _ _ _ _ _ w3 ⟨#[]⟩ j1 e1 (Nat.zero_le _) HE3.out HM3.out (by omega) HZ3.out HO3.out HR3.out
  | true =>
    rw [hsg] at q1
    have hb : e1 = 0 ∧ sgn l j1 [60] = true := by simpa [seesB] using hsg
    obtain ⟨he1, hs⟩ := hb
    subst he1
    have hE3 : EyeAt B l (j1 + 1) 0 0 w3 := q1
    have HO3 := veil ho3
    have HS2 : Hid ((after e (pFun l i)) = (match identAt l (j1 + 1) with
        | none => .bad 4
        | some v => if sgn l (j1 + 2) [62] = true then funRest l n v (j1 + 3) else .bad 4)) := by
      rcases HS1.out with ⟨_, hT⟩ | ⟨hne, _⟩
      · show _ = _
        rw [hT, pVar, if_pos hs]
        cases identAt l (j1 + 1) with
        | none => rfl
        | some v =>
          cases sgn l (j1 + 2) [62] with
          | true => rfl
          | false => rfl
      · exact absurd rfl hne
    clear q1 q2 hsg ho3 hE2 HId HZ2 HM2 HS1 hs
    go_wp2_with fail
    refine (ident_eye B l (j1 + 1) 0 _ _ hE3).mono ?_
    rintro r w4 hq
    obtain ⟨q5, v, j4, e4, rfl, hvz, q4, hid4⟩ := ident_st hq
    have hs4 := q5.below.size
    have hz4 := (q5.above w.heap.size hlt (by omega)).trans HZ3.out
    have ho4 := (q5.above w1.heap.size (by omega) (by omega)).trans HO3.out
    have o1 := row_cell ho4 1 _ rfl
    have x1 := Lib.frozen_of_heap ho4 1
    have HE5 := veil (ey_far q4 (c := w1.heap.size) (by omega) 1 (.string v))
    have HM5 := veil (mv_far (HM3.out.trans q5) (c := w1.heap.size) (by omega) (by omega) 1 (.string v))
    have HZ5 := veil ((Below.heap_setCell w4 ⟨w1.heap.size, 1, none⟩ (.string v) w.heap.size (by show w.heap.size ≠ w1.heap.size; omega)).trans hz4)
    have HO5 := veil (block_set ho4 1 (.string v))
    have HS5 : Hid ((w4.setCell ⟨w1.heap.size, 1, none⟩ (.string v)).heap.size = w4.heap.size) := heap_size_setCell _ _ _
    have HI4 := veil hid4
    clear hq q4 q5 hz4 ho4 hE3 hid4
    go_wp2_with fail
    refine (wants_eye B l j4 e4 _ ⟨#[62]⟩ _ HE5.out).mono ?_
    rintro r w6 ⟨rfl, q1, q2⟩
    have hs6 := q2.below.size
    rw [HS5.out] at hs6
    have HZ6 := veil ((q2.above w.heap.size hlt (by rw [HS5.out]; omega)).trans HZ5.out)
    have HO6 : Hid (w6.heap[w1.heap.size]? = some (.cells #[.string n, .string v, .slice none 0 0, .int .i64 0, .string ⟨#[]⟩, .string ⟨#[]⟩, .slice none 0 0, .int .i64 0, .int .i64 0, .string ⟨#[]⟩, .string ⟨#[]⟩, .slice none 0 0] 89 (0, 0))) := (q2.above w1.heap.size (by omega) (by rw [HS5.out]; omega)).trans HO5.out
    have HM6 := veil (HM5.out.trans q2)
    have HE6 := veil q1
    have HR6 : Hid ((wantE (seesB l j4 e4 (ByteArray.mk #[62]).data.toList) e4 = 0 ∧ (after e (pFun l i)) = funRest l n v (adv (seesB l j4 e4 (ByteArray.mk #[62]).data.toList) j4)) ∨ (wantE (seesB l j4 e4 (ByteArray.mk #[62]).data.toList) e4 ≠ 0 ∧ (after e (pFun l i)) = .bad (wantE (seesB l j4 e4 (ByteArray.mk #[62]).data.toList) e4))) := by
      have hT := HS2.out
      rcases HI4.out with ⟨_, hi, rfl, rfl⟩ | ⟨hb, rfl⟩
      · rw [hi] at hT
        simp only at hT
        cases h62 : sgn l (j1 + 2) [62] with
        | true =>
          rw [show seesB l (j1 + 1 + 1) 0 (ByteArray.mk #[62]).data.toList = true from sees_is rfl h62]
          rw [if_pos h62] at hT
          exact .inl ⟨rfl, hT⟩
        | false =>
          rw [show seesB l (j1 + 1 + 1) 0 (ByteArray.mk #[62]).data.toList = false from sees_is rfl h62]
          rw [if_neg (by rw [h62]; simp)] at hT
          exact .inr ⟨by decide, hT⟩
      · rw [hb.resolve_left (by simp)] at hT
        rw [sees_wrong (first_ne 0), want_wrong (first_ne 0)]
        exact .inr ⟨first_ne 0, hT⟩
    clear q1 q2 HI4 HS2 HZ5 HO5 HM5 HE5 o1 x1
    go_wp2_with fail
    exact HREST.out _ _ _ _ _ _ w6 v _ _ hvz HE6.out HM6.out (by omega) HZ6.out HO6.out HR6.out

end Go.Proofs.YtagbaimfigljiaaGreatDoor
