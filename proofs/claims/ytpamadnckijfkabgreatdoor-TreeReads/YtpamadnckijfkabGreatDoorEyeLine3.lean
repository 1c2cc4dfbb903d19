/- What the reference's lineOf answers at what a module uses, and at a function. -/
import Derived.Test.YtpamadnckijfkabGreatDoorEyeLine2
import Derived.Test.YtpamadnckijfkabGreatDoorReadUse
namespace Go.Proofs.YtpamadnckijfkabGreatDoor
open Go.RowKit
set_option maxRecDepth 100000

theorem news_new (W : World) (cs : Array Value) (T : TypeId) : ∀ j u, cs.toList[j]? = some u → (W.alloc (.cells cs T)).cell? ((⟨W.heap.size, 0, none⟩ : Addr).add j) = some u := by
  intro j u hu
  rw [Go.WideShapes.add_plain, World.cell?_alloc_at _ _ _ _ rfl, Nat.zero_add]
  simpa using hu

/-- what an append to one of the module's rows leaves. -/
theorem row_pack {base M n1 o c n : Nat} {T : TypeId} {mo : Mo} {vu vt vf : Value} {la : Option Addr} {lcap : Nat} {ys news : List Value} {C : World} {Tn : TypeId} (hmod : ModAt base M n1 mo vu vt vf C) (hcell : (#[vu, vt, vf] : Array Value)[o]? = some (.slice la n lcap)) (hown : C.ownsRow base T c (.slice la n lcap) n ys) (cs : Array Value) :
    (C.alloc (.cells cs Tn)).heap.size = C.heap.size + 1 ∧ base ≤ (C.alloc (.cells cs Tn)).heap.size ∧
    (∀ w6, (C.alloc (.cells cs Tn)).grownBy w6 (Value.slice la n lcap).ownBlock → w6.cell? ⟨M, o, none⟩ = some (.slice la n lcap) ∧ w6.frozen? ⟨M, o, none⟩ = false) ∧
    (∀ g cap w6, w6.ownsRow base T c (.slice (some ⟨g, 0, none⟩) (n + 1) cap) (n + 1) (ys ++ news) → (C.alloc (.cells cs Tn)).grownBy w6 (Value.slice la n lcap).ownBlock → ((Value.slice la n lcap).ownBlock = some g ∨ g = C.heap.size + 1) →
      GrewM base M o #[vu, vt, vf] T c (.slice la n lcap) (.slice (some ⟨g, 0, none⟩) (n + 1) cap) (n + 1) (ys ++ news) C (w6.setCell ⟨M, o, none⟩ (.slice (some ⟨g, 0, none⟩) (n + 1) cap))) := by
  have hM := hmod.hM
  have hb := hmod.hb
  have hn := hmod.hn
  have hH : (C.alloc (.cells cs Tn)).heap.size = C.heap.size + 1 := by simp
  have hFar : some M ≠ (Value.slice la n lcap).ownBlock := fun h => by have := ownsRow_in hown _ h.symm; omega
  have hOld : ∀ k', k' < C.heap.size → (C.alloc (.cells cs Tn)).heap[k']? = C.heap[k']? := fun k' hk' => heap_alloc_old C _ hk'
  refine ⟨hH, by omega, fun w6 hg => ?_, fun g cap w6 ho hg hat => ?_⟩
  · have hb6 := (hg.block M (by omega) hFar).trans ((hOld M (by omega)).trans hmod.mod)
    exact ⟨row_cell hb6 o _ hcell, Lib.frozen_of_heap hb6 o⟩
  · exact grewM_store (W0 := C.alloc (.cells cs Tn)) hM (by omega) (by omega) rfl rfl rfl hOld hg hmod.mod hFar ho (hat.imp_right (fun h => by omega))

set_option maxHeartbeats 16000000 in
theorem line_use (l : Toks) (ta : Option Addr) (tcap base M n1 : Nat) (mo : Mo) (vu vt vf : Value) (W : World) (h : ModAt base M n1 mo vu vt vf W) (ht : TokRow W (.slice ta l.length tcap) l) (h2 : l.length ≤ 200) (h3 : ∀ t ∈ l, faultOf t = 0) (hu : mo.uses.length ≤ 2000) (_hty : mo.types.length ≤ 2000) (_hf : mo.funcs.length ≤ 2000)
    (h0 : 0 < l.length) (tx : ByteArray) (hk : l[0].1 = 1) (htx : l[0].2 = tx) (hx1 : (tx.toList == [117, 115, 101]) = true) : Calls Tryz.prog 14 #[.pointer (some ⟨M, 0, none⟩), .slice ta l.length tcap] W fun r w' => ∃ x, r = .returned (.int .i64 x) ∧ LineR base M mo W (pLine l) x w' := by
  have hw0 : ∀ s, wrd l 0 s = (tx.toList == s) := fun s => by rw [wrd, tokB_of h0, hk, htx, Lib.toList_data]; simp
  have HPl : Hid (pLine l = match identAt l 1 with
      | none => .error 4
      | some n => if l.length ≤ 2 then .ok (.use n) else .error 4) := by
    show _ = _
    unfold pLine
    rw [if_neg (by omega), hw0, if_pos hx1]
    cases identAt l 1 <;> rfl
  clear hw0
  have hE0 := eye_new ht h2 h3
  have HB0 : Hid (Below W.heap.size W (W.alloc (.cells #[.slice ta l.length tcap, .int .i64 0, .int .i64 0, .int .i64 0] 95))) := (Below.refl _ _).alloc (Nat.le_refl _) _
  have hone := one_some W.heap.size l 0 0 _ hE0 h0
  rw [hk, htx] at hone
  have HOne := veil hone
  have HMod := veil h
  have hM := h.hM
  have hbn := h.hb
  have hnW := h.hn
  have hl0 : ((l.length : Int) == 0) = false := by rw [beq_eq_false_iff_ne]; omega
  clear hone hE0 h ht h3 hk htx
  go_enter Tryz.func14, Tryz.ntmps14
  go_wp2_with fail
  refine HOne.out.mono ?_
  rintro r w1 ⟨rfl, hE1, q2⟩
  have hs1 : W.heap.size + 1 ≤ w1.heap.size := by have := q2.below.size; simpa using this
  have HB1 : Hid (Below W.heap.size W w1) := HB0.out.trans q2.below
  have hE2 := ey_alloc hE1 (.cells #[.int .i64 1, .string tx] 90)
  have HB2 : Hid (Below W.heap.size W (w1.alloc (.cells #[.int .i64 1, .string tx] 90))) := HB1.out.alloc (by omega) _
  have t0 : (w1.alloc (.cells #[.int .i64 1, .string tx] 90)).cell? ⟨w1.heap.size, 0, none⟩ = some (.int .i64 1) := World.cell?_alloc_at _ _ _ _ rfl
  have t1 : (w1.alloc (.cells #[.int .i64 1, .string tx] 90)).cell? ⟨w1.heap.size, 1, none⟩ = some (.string tx) := World.cell?_alloc_at _ _ _ _ rfl
  clear q2 hE1 HOne HB0
  have HE2 := veil (ey_below hE2 (Below.refl _ _).drew)
  obtain ⟨ys0, hrow0⟩ := HMod.out.us
  obtain ⟨la, lcap, rfl⟩ := own_slice hrow0.own
  have cM : (w1.alloc (.cells #[.int .i64 1, .string tx] 90)).drew.cell? ⟨M, 0, none⟩ = some (Value.slice la mo.uses.length lcap) := by
    show (w1.alloc (.cells #[.int .i64 1, .string tx] 90)).cell? _ = _
    rw [HB2.out.cell (p := ⟨M, 0, none⟩) (by show M < _; omega)]
    exact row_cell HMod.out.mod 0 _ rfl
  obtain ⟨i0, hi0, hz0, hz1, hz2⟩ := info_parts st_info
  have HI0 := veil hi0
  have HZ0 := veil hz0
  have HZ1 := veil hz1
  have HZ2 := veil hz2
  have HNl : Hid (mo.uses.length + 1 ≤ maxLen) := by show _ ≤ _; unfold maxLen; omega
  have HBy : Hid ((mo.uses.length + 1) * 16 ≤ 140737488355328) := by show _ ≤ _; omega
  clear hi0 hz0 hz1 hz2 hrow0 hE2
  go_wp2_with fail
  go_region_law (first
    | (refine step_append_lies _ rfl _ _ 22 rfl base 9 i0 _ 1 16 Tryz.underlying22 HI0.out HZ0.out HZ1.out HZ2.out rfl (by omega) (Value.slice la mo.uses.length lcap) mo.uses.length yC rfl (HRowC.out.own.alloc _) ⟨wC.heap.size, 0, none⟩ 1 1 [.string nm] rfl rfl HNews.out HOneC.out (by omega) HNl.out HBy.out HPk.out.2.1 (wC.heap.size + 1) HPk.out.1 ?_; intro g cap w6 hown6 hgrow hat hlt6; obtain ⟨z1, zf⟩ := HPk.out.2.2.1 w6 hgrow; have HG := veil (HPk.out.2.2.2 g cap w6 hown6 hgrow hat); clear hown6 hgrow hat)
    | (go_simp; refine (ident_eye W.heap.size l 1 0 0 _ HE2.out).mono ?_; rintro r wC hq; obtain ⟨q2, nm, jC, eC, rfl, hnmz, q1, hid⟩ := ident_st hq; obtain ⟨tvC, hBC, _⟩ := q1; have HId := veil hid; have HBx := veil hBC; have hsC : w1.heap.size + 1 ≤ wC.heap.size := (by have := q2.below.size; have e : ((w1.alloc (.cells #[.int .i64 1, .string tx] 90)).drew).heap.size = w1.heap.size + 1 := (by show ((w1.alloc (.cells #[.int .i64 1, .string tx] 90))).heap.size = _; simp); rw [e] at this; exact this); have HBC : Hid (Below W.heap.size W wC) := (HB2.out.drew).trans q2.below; have HModC := veil (HMod.out.keep (HBC.out.mono hnW)); have cC := row_cell HModC.out.mod 0 _ rfl; have cD : (wC.alloc (.cells #[.string nm] 9)).cell? ⟨M, 0, none⟩ = some (Value.slice la mo.uses.length lcap) := (by rw [World.cell?_alloc_old _ _ _ (by show M ≠ _; omega)]; exact cC); obtain ⟨yC, hrowC⟩ := HModC.out.us; have HRowC := veil hrowC; have HPk := veil (row_pack (T := 9) (c := 1) (news := [.string nm]) (Tn := 9) HModC.out (o := 0) rfl hrowC.own #[.string nm]); have HNews : Hid (∀ j u, ([.string nm] : List Value)[j]? = some u → (wC.alloc (.cells #[.string nm] 9)).cell? ((⟨wC.heap.size, 0, none⟩ : Addr).add j) = some u) := news_new wC #[.string nm] 9; have HOneC : Hid (∀ u ∈ ([.string nm] : List Value), u.oneCell' = true) := (by intro u hu; simp at hu; first | (rcases hu with rfl | rfl | rfl | rfl | rfl | rfl | rfl | rfl | rfl | rfl | rfl | rfl <;> rfl) | (rw [hu]; rfl)); clear hq q2 hid hBC hrowC))
  all_goals
    generalize w6.setCell ⟨M, 0, none⟩ (.slice (some ⟨g, 0, none⟩) (mo.uses.length + 1) cap) = w7 at *
    have hsz7 := HG.out.size
    have hB7 := (HG.out.rest W.heap.size (by omega) (by omega) (fun h => by have := HRowC.out.old _ h.symm; omega)).trans HBx.out
    have e1 := row_cell hB7 1 _ rfl
    have e2 := row_cell hB7 2 _ rfl
    have HBM : Hid (BelowM base M W w7) := (BelowM.of_below HBC.out (by omega)).trans (HG.out.belowM HRowC.out.own (by omega))
    have HB7 := veil hB7
    clear hB7 z1 zf cM cC cD
    by_cases hj : jC < l.length
    · have hj' : (jC : Int) < (l.length : Int) := by omega
      go_wp2_with fail
      refine (bad_box W.heap.size tvC jC eC 0 4 _ HB7.out).mono ?_
      rintro r w8 ⟨rfl, hB8, q8⟩
      have e8 := row_cell hB8 2 _ rfl
      have HB8 : Hid (BelowM base M W w8) := HBM.out.trans (BelowM.of_below q8.below (by omega))
      clear hB8 q8 e1 e2
      go_wp2_with fail
      go_ret
      refine ⟨_, rfl, HB8.out, .inl ⟨firstOf eC 4, ?_, rfl⟩⟩
      rw [HPl.out]
      rcases HId.out with ⟨_, hi, hj2, h0'⟩ | ⟨hb, h4⟩
      · rw [hi, h0']
        simp only
        rw [if_neg (by omega)]
        rfl
      · rw [hb.resolve_left (by simp), h4]
        rfl
    · have hj' : ¬ (jC : Int) < (l.length : Int) := by omega
      have hjd : decide ((jC : Int) < (l.length : Int)) = false := by simp; omega
      go_wp2_with fail
      go_ret
      refine ⟨_, rfl, ?_⟩
      have hle : l.length ≤ jC := by omega
      rcases HId.out with ⟨_, hi, hj2, h0'⟩ | ⟨hb, h4⟩
      · refine ⟨HBM.out, .inr ⟨.use nm, ?_, h0', w7.heap.size, _, vt, vf, ModAt.pushU HModC.out HRowC.out HG.out hnmz⟩⟩
        rw [HPl.out, hi]
        simp only
        rw [if_pos (by omega)]
      · refine ⟨HBM.out, .inl ⟨eC, ?_, rfl⟩⟩
        rw [HPl.out, hb.resolve_left (by simp), h4]
        rfl

end Go.Proofs.YtpamadnckijfkabGreatDoor
