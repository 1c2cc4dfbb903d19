/- What readLine answers, at every line and every module: what is wrong first; or the module with what the line declares. -/
import Derived.Test.YtieoddnaknpmlabGreatDoorJH
import Derived.Test.YtieoddnaknpmlabGreatDoorJK
import Derived.Test.YtieoddnaknpmlabGreatDoorJE
import Derived.Test.YtieoddnaknpmlabGreatDoorJD
import Derived.Test.YtieoddnaknpmlabGreatDoorJC
namespace Go.Proofs.YtieoddnaknpmlabGreatDoor
open Go.RowKit
set_option maxRecDepth 100000

/-- what a line declares, or what is wrong with it. -/
def lineRes (s : ByteArray) : Except Int Line := if cutErr s = 0 then pLine (cutToks s) else .error (cutErr s)

/-- from W to W' nothing has turned below base but block M. -/
structure BelowM (base M : Nat) (W W' : World) : Prop where
  os : W'.os = W.os
  tape : W'.tape = W.tape
  output : W'.output = W.output
  size : W.heap.size ≤ W'.heap.size
  block : ∀ k, k < base → k ≠ M → W'.heap[k]? = W.heap[k]?

theorem BelowM.of_below {base M n : Nat} {W W' : World} (h : Below n W W') (hn : base ≤ n) : BelowM base M W W' := ⟨h.os, h.tape, h.output, h.size, fun k hk _ => h.block k (by omega)⟩
theorem BelowM.trans {base M : Nat} {W W' W'' : World} (h : BelowM base M W W') (h' : BelowM base M W' W'') : BelowM base M W W'' :=
  ⟨h'.os.trans h.os, h'.tape.trans h.tape, h'.output.trans h.output, Nat.le_trans h.size h'.size, fun k hk hne => (h'.block k hk hne).trans (h.block k hk hne)⟩
theorem GrewM.belowM {base M o c : Nat} {cells : Array Value} {T : TypeId} {v v' : Value} {n n' : Nat} {ys ys' : List Value} {W W' : World} (h : GrewM base M o cells T c v v' n' ys' W W') (hown : W.ownsRow base T c v n ys) (hW : base ≤ W.heap.size) : BelowM base M W W' :=
  ⟨h.os, h.tape, h.output, h.size, fun k hk hne => h.rest k (by omega) hne (fun e => by have := ownsRow_in hown _ e.symm; omega)⟩

/-- what is said of a line: the answer, and the module behind it. -/
def LineR (base M : Nat) (mo : Mo) (W : World) (r : Except Int Line) (x : Int) (w' : World) : Prop := BelowM base M W w' ∧ ((∃ e, r = .error e ∧ x = e) ∨ ∃ d, r = .ok d ∧ x = 0 ∧ ∃ n1 vu vt vf, ModAt base M n1 (putLine mo d) vu vt vf w')

theorem own_slice {W : World} {base c n : Nat} {T : TypeId} {v : Value} {ys : List Value} (h : W.ownsRow base T c v n ys) : ∃ la cap, v = .slice la n cap := by
  rcases h.2 with ⟨h1, h2⟩ | ⟨g, cap, _, h1, _⟩
  · exact ⟨none, 0, by rw [h1, h2]⟩
  · exact ⟨_, cap, h1⟩

theorem toks_of {w w' : World} {v : Value} {l : Toks} {B : Nat} (h : TokRow w v l) (hB : w.heap.size = B) (hb : Below w.heap.size w w') (h2 : l.length ≤ 200) (h3 : ∀ t ∈ l, faultOf t = 0) : ToksAt B w' v l := by
  refine ⟨⟨h2, fun t ht h1 => ?_⟩, ?_⟩
  · have := h3 t ht
    unfold faultOf at this
    rcases fault_sound this with ⟨h, _⟩ | ⟨_, h⟩ | ⟨h, _⟩ | ⟨h, _⟩
    · omega
    · exact h
    · omega
    · omega
  · rcases h with h | ⟨b, off, cap, rfl, hlt, _, hc⟩
    · exact Or.inl h
    · refine Or.inr ⟨b, off, cap, rfl, by omega, fun i hi => ?_⟩
      have h := hc i hi
      rw [List.getD_eq_getElem?_getD, List.getElem?_eq_getElem hi] at h
      exact ⟨(hb.cell (p := ⟨b, off + i * 2, none⟩) hlt).trans h.1, (hb.cell (p := ⟨b, off + i * 2 + 1, none⟩) hlt).trans h.2.1, h.2.2⟩

/-- where a line is read to its end. -/
theorem lineR_fin {base M : Nat} {mo : Mo} {W w' : World} {l : Toks} {j : Nat} {d : Line} {r : Except Int Line} (hb : BelowM base M W w') (hr : r = if l.length ≤ j then .ok d else .error 4) (hm : ∃ n1 vu vt vf, ModAt base M n1 (putLine mo d) vu vt vf w') :
    LineR base M mo W r (if l.length ≤ j then 0 else 4) w' := by
  refine ⟨hb, ?_⟩
  by_cases h : l.length ≤ j
  · rw [if_pos h] at hr ⊢
    exact Or.inr ⟨d, hr, rfl, hm⟩
  · rw [if_neg h] at hr ⊢
    exact Or.inl ⟨4, hr, rfl⟩

set_option maxHeartbeats 8000000 in
theorem line_next (s : ByteArray) (base M n1 : Nat) (mo : Mo) (vu vt vf : Value) (W : World) (h : ModAt base M n1 mo vu vt vf W) (hu : mo.uses.length ≤ 2000) (ht : mo.types.length ≤ 2000) (hf : mo.funcs.length ≤ 2000) :
    Calls Tryz.prog 11 #[.string s, .pointer (some ⟨M, 0, none⟩)] W (Ends (LineR base M mo W (lineRes s))) := by
  have hM := h.hM
  have hb := h.hb
  have hn := h.hn
  have HMod := veil h
  have hal0 : Below W.heap.size W (W.alloc (.cells #[.pointer (some ⟨M, 0, none⟩)] 39)) := (Below.refl _ _).alloc (Nat.le_refl _) _
  have HB0 := veil hal0
  have hef := makeFunc_run
  clear h hal0
  go_enter Tryz.func11, Tryz.ntmps11
  go_wp2_with fail
  refine (cut_all s _).mono ?_
  rintro e w1 ⟨v, rfl, hv, hb1⟩
  have hsz1 : W.heap.size + 1 ≤ w1.heap.size := by have := hb1.size; simpa using this
  have hbel1 : Below W.heap.size W w1 := HB0.out.trans (hb1.mono (by simp))
  have HB1 := veil hbel1
  have cm1 : w1.cell? ⟨W.heap.size, 0, none⟩ = some (.pointer (some ⟨M, 0, none⟩)) := (hb1.cell (p := ⟨W.heap.size, 0, none⟩) (by simp)).trans (World.cell?_alloc_at _ _ _ _ rfl)
  by_cases hce : cutErr s = 0
  · have hLR : lineRes s = pLine (cutToks s) := if_pos hce
    have HLR := veil hLR
    obtain ⟨_, _, h200, hval⟩ := cut_sound hce
    rw [hce]
    generalize cutToks s = l at *
    by_cases hl0 : l.length = 0
    · have hR : LineR base M mo W (lineRes s) 0 w1 := ⟨BelowM.of_below hbel1 (by omega), Or.inr ⟨.none, by rw [hLR]; unfold pLine; simp only [hl0, if_true], rfl, n1, vu, vt, vf, HMod.out.keep (hbel1.mono hn)⟩⟩
      have HR := veil hR
      obtain ⟨a, cap, rfl⟩ : ∃ a cap, v = .slice a 0 cap := by
        rcases hv with ⟨_, h⟩ | ⟨b, off, cap, h, _⟩
        · exact h
        · exact ⟨_, cap, by rw [h, hl0]⟩
      clear hR hv hb1 hbel1 hval hLR cm1 hce
      go_wp2_with fail
      go_ret
      exact ⟨_, rfl, HR.out⟩
    · obtain ⟨a, cap, rfl⟩ : ∃ a cap, v = .slice a l.length cap := by
        rcases hv with ⟨h, _⟩ | ⟨b, off, cap, h, _⟩
        · rw [h] at hl0; exact absurd rfl hl0
        · exact ⟨_, cap, h⟩
      have hl0' : (((l.length : Nat) : Int) == 0) = false := by simpa using hl0
      have hal2 : Below w1.heap.size w1 ((w1.alloc (.cells #[.slice a l.length cap, .int .i64 0] 78)).alloc (.cells #[.pointer (some ⟨w1.heap.size, 0, none⟩)] 76)) := ((Below.refl _ _).alloc (Nat.le_refl _) _).alloc (by simp) _
      have hrd : RdAt w1.heap.size l 0 ((w1.alloc (.cells #[.slice a l.length cap, .int .i64 0] 78)).alloc (.cells #[.pointer (some ⟨w1.heap.size, 0, none⟩)] 76)) := by
        refine ⟨.slice a l.length cap, ?_, toks_of hv rfl hal2 h200 hval, Nat.zero_le _⟩
        rw [heap_alloc_old _ _ (by simp)]
        exact heap_alloc_new w1 _
      have hw2 : ∃ w2, ((w1.alloc (.cells #[.slice a l.length cap, .int .i64 0] 78)).alloc (.cells #[.pointer (some ⟨w1.heap.size, 0, none⟩)] 76)) = w2 ∧ w2.cell? ⟨W.heap.size, 0, none⟩ = some (.pointer (some ⟨M, 0, none⟩)) ∧ w2.cell? ⟨w1.heap.size + 1, 0, none⟩ = some (.pointer (some ⟨w1.heap.size, 0, none⟩)) ∧ w2.heap.size = w1.heap.size + 2 :=
        ⟨_, rfl, (World.cell?_alloc_old _ _ _ (by show W.heap.size ≠ _; simp; omega)).trans ((World.cell?_alloc_old _ _ _ (by show W.heap.size ≠ _; omega)).trans cm1), World.cell?_alloc_at _ _ _ _ (by simp), by simp⟩
      obtain ⟨w2, hwe, y0, y1, hs2⟩ := hw2
      rw [hwe] at hal2 hrd
      have HX := veil (show ∀ W', Moved w1.heap.size w2 W' → Below W.heap.size W W' ∧ W'.cell? ⟨W.heap.size, 0, none⟩ = some (.pointer (some ⟨M, 0, none⟩)) ∧ W'.cell? ⟨w1.heap.size + 1, 0, none⟩ = some (.pointer (some ⟨w1.heap.size, 0, none⟩)) from fun W' hm =>
        ⟨(hbel1.trans (hal2.mono (by omega))).trans (hm.below.mono (by omega)), (hm.below.cell (p := ⟨W.heap.size, 0, none⟩) (by show W.heap.size < _; omega)).trans y0, (hm.cell (by omega) (by omega) 0).trans y1⟩)
      have HR2 := veil hrd
      have HL0 := veil hl0
      clear hal2 hrd hv hb1 hbel1 hval h200 cm1 hLR hce hl0
      go_wp2_with fail
      try rw [hwe]
      refine (word_next w1.heap.size l 0 ⟨#[117, 115, 101]⟩ _ HR2.out).mono ?_
      rintro e w3 ⟨rfl, q1, q2⟩
      have HN3 := veil q2
      have hsz3 := q2.below.size
      obtain ⟨hbx3, k0, k1⟩ := HX.out w3 q2
      have HBel3 := veil hbx3
      cases hu1 : wrd l 0 [117, 115, 101]
      case true =>
        have hu1' : wrd l 0 (ByteArray.mk #[117, 115, 101]).data.toList = true := hu1
        rw [hu1'] at q1
        have q1' : RdAt w1.heap.size l 1 w3 := q1
        have hmod3 := HMod.out.keep (hbx3.mono hn)
        obtain ⟨yu, hyu⟩ := hmod3.us
        obtain ⟨la, lcap, hvu⟩ := own_slice hyu.own
        subst hvu
        have hP : lineRes s = match identAt l 1 with
          | .none => .error 4
          | .some t => if l.length ≤ 2 then .ok (.use t) else .error 4 := by
          rw [HLR.out]; unfold pLine; simp only [HL0.out, if_false, hu1, if_true]; rfl
        have cU := use_next (LineR base M mo W (lineRes s)) base M n1 w1.heap.size #[.slice la mo.uses.length lcap, vt, vf] la lcap mo.uses.length yu l 1 w3 q1' hmod3.mod rfl hyu.own hyu.old hM hb (by omega) (by unfold maxLen; omega) (by omega)
          (fun hi w' hm' => ⟨BelowM.of_below (HX.out w' (HN3.out.trans hm')).1 (by omega), Or.inl ⟨4, by rw [hP, hi], rfl⟩⟩)
          (fun t hi hts g cap' wa wb w' hm' hG hb' => by
            have hbx := (HX.out wa (HN3.out.trans hm')).1
            have hsza := hm'.below.size
            have hma := HMod.out.keep (hbx.mono hn)
            have hya : RowIs StC 9 1 base n1 (MParts base n1 (.slice la mo.uses.length lcap) vt vf) mo.uses (.slice la mo.uses.length lcap) yu wa := RowIs.keep (C := StC) (fun hk h => stC_keep hk h) hyu ⟨fun b hb' => (hm'.below.block b (by have := hb'.2.1; omega)), fun _ h => h⟩ (fun g' hg' => hm'.below.block g' (by have := hyu.old g' hg'; omega)) (Nat.le_refl _)
            have hmb := ModAt.pushU hma hya hG hts
            refine lineR_fin (d := .use t) ?_ (by rw [hP, hi]) ⟨_, _, _, _, hmb.keep hb'⟩
            exact ((BelowM.of_below hbx (by omega)).trans (hG.belowM hya.own (by omega))).trans (BelowM.of_below hb' (by have := hG.size; omega)))
        have HCU := veil cU
        try rw [hu1']
        clear q1 q1' q2 hu1 hu1' hmod3 cU hP hbx3 hwe y0 y1 hyu
        go_wp2_with fail
        refine HCU.out.mono ?_
        rintro e w' ⟨y, rfl, hy⟩
        have HY := veil hy
        clear hy
        go_wp2_with fail
        go_ret
        exact ⟨_, rfl, HY.out⟩
      have hu1' : wrd l 0 (ByteArray.mk #[117, 115, 101]).data.toList = false := hu1
      rw [hu1'] at q1
      have HR3 : Hid (RdAt w1.heap.size l 0 w3) := q1
      have HU1 := veil hu1
      try rw [hu1']
      clear q1 q2 hu1 hu1' hbx3 hwe y0 y1
      go_wp2_with fail
      refine (word_next w1.heap.size l 0 ⟨#[116, 121, 112, 101]⟩ _ HR3.out).mono ?_
      rintro e w4 ⟨rfl, q1, q2⟩
      have HN4 := veil (HN3.out.trans q2)
      have hsz4 := q2.below.size
      obtain ⟨hbx4, j0, j1⟩ := HX.out w4 HN4.out
      clear k0 k1
      cases hu2 : wrd l 0 [116, 121, 112, 101]
      case true =>
        have hu2' : wrd l 0 (ByteArray.mk #[116, 121, 112, 101]).data.toList = true := hu2
        rw [hu2'] at q1
        have q1' : RdAt w1.heap.size l 1 w4 := q1
        have hPb : ∀ e, pNamed l [61] 1 = .bad e → lineRes s = .error e := fun e he => by
          rw [HLR.out]; unfold pLine; simp only [HL0.out, if_false, HU1.out, hu2, if_true, he]; rfl
        have hPo : ∀ x j, pNamed l [61] 1 = .ok x j → lineRes s = if l.length ≤ j then .ok (.typ x) else .error 4 := fun x j he => by
          rw [HLR.out]; unfold pLine; simp only [HL0.out, if_false, HU1.out, hu2, if_true, he]; rfl
        have cN := named_next w1.heap.size l 1 ⟨#[61]⟩ w4 33 #[.pointer (some ⟨W.heap.size, 0, none⟩), .pointer (some ⟨w1.heap.size + 1, 0, none⟩)] (enters_of Tryz.func33 (by kernel_rfl) rfl) (LineR base M mo W (lineRes s)) q1'
          (fun e he w' hm' => ⟨BelowM.of_below (HX.out w' (HN4.out.trans hm')).1 (by omega), Or.inl ⟨e, hPb e he, rfl⟩⟩)
          (fun x j hx w' v hm' hr' hv => by
            obtain ⟨hbx, g0, g1⟩ := HX.out w' (HN4.out.trans hm')
            have hma := HMod.out.keep (hbx.mono hn)
            obtain ⟨yt, hyt⟩ := hma.ts
            obtain ⟨la, lcap, hvt⟩ := own_slice hyt.own
            subst hvt
            obtain ⟨k, f, n, va, rfl, hnm, hcs⟩ := hv
            obtain ⟨va1, va2, va3, rfl⟩ := hcs.slice
            obtain ⟨ta, tcap, hrd⟩ := rd_form hr'
            have hsz' := hm'.below.size
            refine pushT_step (LineR base M mo W (lineRes s)) base M n1 W.heap.size (w1.heap.size + 1) w1.heap.size #[vu, .slice la mo.types.length lcap, vf] la lcap mo.types.length yt x.name k f n va1 va2 va3 ta l.length tcap j w' hma.mod rfl hyt.own hyt.old hM hb (by omega) (by unfold maxLen; omega) (by omega) g0 g1 hn (by omega) (by omega) hrd ?_
            intro g cap' wb w'' hG hb'
            have hmb := ModAt.pushT (x := x) hma hyt hG rfl ⟨k, f, n, va1, va2, va3, rfl, hnm, hcs.keep ⟨fun _ _ => rfl, fun b hb2 => ⟨by have := hb2.1; omega, hb2.2⟩⟩⟩
            refine lineR_fin (d := .typ x) ?_ (hPo x j hx) ⟨_, _, _, _, hmb.keep hb'⟩
            exact ((BelowM.of_below hbx (by omega)).trans (hG.belowM hyt.own (by omega))).trans (BelowM.of_below hb' (by have := hG.size; omega)))
        have HCN := veil cN
        try rw [hu2']
        clear q1 q1' q2 hu2 hu2' cN hPb hPo hbx4
        go_wp2_with fail
        refine HCN.out.mono ?_
        rintro e w' ⟨y, rfl, hy⟩
        have HY := veil hy
        clear hy
        go_wp2_with fail
        go_ret
        exact ⟨_, rfl, HY.out⟩
      have hu2' : wrd l 0 (ByteArray.mk #[116, 121, 112, 101]).data.toList = false := hu2
      rw [hu2'] at q1
      have HR4 : Hid (RdAt w1.heap.size l 0 w4) := q1
      have HU2 := veil hu2
      try rw [hu2']
      clear q1 q2 hu2 hu2' hbx4
      go_wp2_with fail
      refine (word_next w1.heap.size l 0 ⟨#[102, 117, 110, 99]⟩ _ HR4.out).mono ?_
      rintro e w5 ⟨rfl, q1, q2⟩
      have HN5 := veil (HN4.out.trans q2)
      have hsz5 := q2.below.size
      obtain ⟨hbx5, i0, i1⟩ := HX.out w5 HN5.out
      clear j0 j1
      cases hu3 : wrd l 0 [102, 117, 110, 99]
      case true =>
        have hu3' : wrd l 0 (ByteArray.mk #[102, 117, 110, 99]).data.toList = true := hu3
        rw [hu3'] at q1
        have q1' : RdAt w1.heap.size l 1 w5 := q1
        have hPb : ∀ e, pFun l 1 = .bad e → lineRes s = .error e := fun e he => by
          rw [HLR.out]; unfold pLine; simp only [HL0.out, if_false, HU1.out, HU2.out, hu3, if_true, he]; rfl
        have hPo : ∀ x j, pFun l 1 = .ok x j → lineRes s = if l.length ≤ j then .ok (.fn x) else .error 4 := fun x j he => by
          rw [HLR.out]; unfold pLine; simp only [HL0.out, if_false, HU1.out, HU2.out, hu3, if_true, he]; rfl
        have cN := fun_next w1.heap.size l 1 w5 36 #[.pointer (some ⟨W.heap.size, 0, none⟩), .pointer (some ⟨w1.heap.size + 1, 0, none⟩)] (enters_of Tryz.func36 (by kernel_rfl) rfl) (LineR base M mo W (lineRes s)) q1'
          (fun e he w' hm' => ⟨BelowM.of_below (HX.out w' (HN5.out.trans hm')).1 (by omega), Or.inl ⟨e, hPb e he, rfl⟩⟩)
          (fun x j hx w' v hm' hr' hv => by
            obtain ⟨hbx, g0, g1⟩ := HX.out w' (HN5.out.trans hm')
            have hma := HMod.out.keep (hbx.mono hn)
            obtain ⟨yf, hyf⟩ := hma.fs
            obtain ⟨la, lcap, hvf⟩ := own_slice hyf.own
            subst hvf
            obtain ⟨vp, k, f, n, va, k', n', f', s', va', rfl, hnm, hvr, hps, hcs, hce⟩ := hv
            obtain ⟨vp1, vp2, vp3, rfl⟩ := hps.slice
            obtain ⟨va1, va2, va3, rfl⟩ := hcs.slice
            obtain ⟨ve1, ve2, ve3, rfl⟩ := hce.slice
            obtain ⟨ta, tcap, hrd⟩ := rd_form hr'
            have hsz' := hm'.below.size
            refine pushF_step (LineR base M mo W (lineRes s)) base M n1 W.heap.size (w1.heap.size + 1) w1.heap.size #[vu, vt, .slice la mo.funcs.length lcap] la lcap mo.funcs.length yf x.name x.var vp1 vp2 vp3 k f n va1 va2 va3 k' n' f' s' ve1 ve2 ve3 ta l.length tcap j w' hma.mod rfl hyf.own hyf.old hM hb (by omega) (by unfold maxLen; omega) (by omega) g0 g1 hn (by omega) (by omega) hrd ?_
            intro g cap' wb w'' hG hb'
            have hk2 : Keeps (Fresh w5.heap.size w') (Fresh n1 w') w' w' := ⟨fun _ _ => rfl, fun b hb2 => ⟨by have := hb2.1; omega, hb2.2⟩⟩
            have hmb := ModAt.pushF (x := x) hma hyf hG rfl ⟨vp1, vp2, vp3, k, f, n, va1, va2, va3, k', n', f', s', ve1, ve2, ve3, rfl, hnm, hvr, fdSl_keep hk2 hps, hcs.keep hk2, hce.keep hk2⟩
            refine lineR_fin (d := .fn x) ?_ (hPo x j hx) ⟨_, _, _, _, hmb.keep hb'⟩
            exact ((BelowM.of_below hbx (by omega)).trans (hG.belowM hyf.own (by omega))).trans (BelowM.of_below hb' (by have := hG.size; omega)))
        have HCN := veil cN
        try rw [hu3']
        clear q1 q1' q2 hu3 hu3' cN hPb hPo hbx5
        go_wp2_with fail
        refine HCN.out.mono ?_
        rintro e w' ⟨y, rfl, hy⟩
        have HY := veil hy
        clear hy
        go_wp2_with fail
        go_ret
        exact ⟨_, rfl, HY.out⟩
      have hu3' : wrd l 0 (ByteArray.mk #[102, 117, 110, 99]).data.toList = false := hu3
      have HRes : Hid (LineR base M mo W (lineRes s) 4 w5) := ⟨BelowM.of_below hbx5 (by omega), Or.inl ⟨4, by rw [HLR.out]; unfold pLine; simp only [HL0.out, if_false, HU1.out, HU2.out, hu3]; rfl, rfl⟩⟩
      try rw [hu3']
      clear q1 q2 hu3 hu3' hbx5 i0 i1
      go_wp2_with fail
      go_ret
      exact ⟨_, rfl, HRes.out⟩
  · have hR : LineR base M mo W (lineRes s) (cutErr s) w1 := ⟨BelowM.of_below hbel1 (by omega), Or.inl ⟨_, if_neg hce, rfl⟩⟩
    have HR := veil hR
    have hce' : (cutErr s != 0) = true := by simpa using hce
    clear hR hv hb1 hbel1 cm1 hce
    generalize cutErr s = y at *
    go_wp2_with fail
    go_ret
    exact ⟨_, rfl, HR.out⟩

end Go.Proofs.YtieoddnaknpmlabGreatDoor

/- What is wrong with a line is no number 0. -/
namespace Go.Proofs.YtieoddnaknpmlabGreatDoor
open Go.RowKit
set_option maxRecDepth 100000

theorem nameAt_ne {l : Toks} {i : Nat} {e : Int} (h : nameAt l i = .bad e) : e ≠ 0 := by
  unfold nameAt at h
  split at h
  · injection h with h; omega
  · split at h
    · split at h
      · injection h with h; omega
      · cases h
    · cases h

theorem pTy_ne {l : Toks} : ∀ (f i : Nat) (e : Int), pTy l f i = .bad e → e ≠ 0
  | 0, _, _, h => by rw [pTy] at h; injection h with h; omega
  | f + 1, i, e, h => by
    rw [pTy] at h
    split at h
    · cases h
    · split at h
      · cases h
      · split at h
        · split at h
          · rename_i hk
            injection h with h
            subst h
            exact pTy_ne f _ _ hk
          · split at h
            · cases h
            · injection h with h; omega
        · split at h
          · rename_i hk
            injection h with h
            subst h
            exact nameAt_ne hk
          · cases h

theorem pList_ne {α : Type} {sub : Nat → Res α} {l : Toks} {fin : List UInt8} (hs : ∀ i e, sub i = .bad e → e ≠ 0) : ∀ (n : Nat) (acc : List α) (i : Nat) (e : Int), pList sub l fin n acc i = .bad e → e ≠ 0
  | 0, _, _, _, h => by rw [pList] at h; injection h with h; omega
  | n + 1, acc, i, e, h => by
    rw [pList] at h
    split at h
    · rename_i hk
      injection h with h
      subst h
      exact hs _ _ hk
    · split at h
      · exact pList_ne hs n _ _ _ h
      · split at h
        · cases h
        · injection h with h; omega

theorem pCall_ne {sub : Nat → Res Ex} {l : Toks} (hs : ∀ i e, sub i = .bad e → e ≠ 0) {i : Nat} {e : Int} (h : pCall sub l i = .bad e) : e ≠ 0 := by
  unfold pCall at h
  split at h
  · rename_i hk
    injection h with h
    subst h
    exact nameAt_ne hk
  · split at h
    · split at h
      · cases h
      · split at h
        · rename_i hl
          injection h with h
          subst h
          exact pList_ne hs _ _ _ _ hl
        · cases h
    · split at h
      · cases h
      · injection h with h; omega

theorem pHead_ne {sub : Nat → Res Ex} {l : Toks} (hs : ∀ i e, sub i = .bad e → e ≠ 0) {i : Nat} {e : Int} (h : pHead sub l i = .bad e) : e ≠ 0 := by
  unfold pHead at h
  split at h
  · split at h
    · rename_i hk
      injection h with h
      subst h
      exact hs _ _ hk
    · split at h
      · cases h
      · injection h with h; omega
  · split at h
    · split at h
      · rename_i hl
        injection h with h
        subst h
        exact pList_ne hs _ _ _ _ hl
      · cases h
    · split at h
      · cases h
      · split at h
        · cases h
        · exact pCall_ne hs h

theorem pPlaces_ne {sub : Nat → Res Ex} {l : Toks} (hs : ∀ i e, sub i = .bad e → e ≠ 0) : ∀ (n : Nat) (x : Ex) (i : Nat) (e : Int), pPlaces sub l n x i = .bad e → e ≠ 0
  | 0, _, _, _, h => by rw [pPlaces] at h; injection h with h; omega
  | n + 1, x, i, e, h => by
    rw [pPlaces] at h
    split at h
    · split at h
      · rename_i hk
        injection h with h
        subst h
        exact hs _ _ hk
      · split at h
        · exact pPlaces_ne hs n _ _ _ h
        · injection h with h; omega
    · cases h

theorem pTail_ne {sub : Nat → Res Ex} {l : Toks} (hs : ∀ i e, sub i = .bad e → e ≠ 0) {i : Nat} {e : Int} (h : pTail sub l i = .bad e) : e ≠ 0 := by
  unfold pTail at h
  split at h
  · rename_i hk
    injection h with h
    subst h
    exact pHead_ne hs hk
  · exact pPlaces_ne hs _ _ _ _ h

theorem pSums_ne {sub : Nat → Res Ex} {l : Toks} (hs : ∀ i e, sub i = .bad e → e ≠ 0) : ∀ (n : Nat) (x : Ex) (i : Nat) (e : Int), pSums sub l n x i = .bad e → e ≠ 0
  | 0, _, _, _, h => by rw [pSums] at h; injection h with h; omega
  | n + 1, x, i, e, h => by
    rw [pSums] at h
    split at h
    · split at h
      · rename_i hk
        injection h with h
        subst h
        exact pTail_ne hs hk
      · exact pSums_ne hs n _ _ _ h
    · cases h

theorem pEx_ne {l : Toks} : ∀ (f i : Nat) (e : Int), pEx l f i = .bad e → e ≠ 0
  | 0, _, _, h => by rw [pEx] at h; injection h with h; omega
  | f + 1, i, e, h => by
    rw [pEx] at h
    split at h
    · rename_i hk
      injection h with h
      subst h
      exact pTail_ne (fun i e => pEx_ne f i e) hk
    · exact pSums_ne (fun i e => pEx_ne f i e) _ _ _ _ h

theorem pNamed_ne {l : Toks} {s : List UInt8} {i : Nat} {e : Int} (h : pNamed l s i = .bad e) : e ≠ 0 := by
  unfold pNamed at h
  split at h
  · injection h with h; omega
  · split at h
    · split at h
      · rename_i hk
        injection h with h
        subst h
        exact pTy_ne _ _ _ hk
      · cases h
    · injection h with h; omega

theorem pVar_ne {l : Toks} {i : Nat} {e : Int} (h : pVar l i = .bad e) : e ≠ 0 := by
  unfold pVar at h
  split at h
  · split at h
    · injection h with h; omega
    · split at h
      · cases h
      · injection h with h; omega
  · cases h

theorem pParams_ne {l : Toks} {i : Nat} {e : Int} (h : pParams l i = .bad e) : e ≠ 0 := by
  unfold pParams at h
  split at h
  · cases h
  · exact pList_ne (fun i e h => pNamed_ne h) _ _ _ _ h

theorem pFun_ne {l : Toks} {i : Nat} {e : Int} (h : pFun l i = .bad e) : e ≠ 0 := by
  unfold pFun at h
  split at h
  · injection h with h; omega
  · split at h
    · rename_i hk
      injection h with h
      subst h
      exact pVar_ne hk
    · split at h
      · split at h
        · rename_i hk
          injection h with h
          subst h
          exact pParams_ne hk
        · split at h
          · split at h
            · rename_i hk
              injection h with h
              subst h
              exact pTy_ne _ _ _ hk
            · split at h
              · split at h
                · rename_i hk
                  injection h with h
                  subst h
                  exact pEx_ne _ _ _ hk
                · cases h
              · injection h with h; omega
          · injection h with h; omega
      · injection h with h; omega

theorem pLine_ne {l : Toks} {e : Int} (h : pLine l = .error e) : e ≠ 0 := by
  unfold pLine at h
  simp only at h
  split at h
  · cases h
  · split at h
    · split at h
      · injection h with h; omega
      · split at h
        · cases h
        · injection h with h; omega
    · split at h
      · split at h
        · rename_i hk
          injection h with h
          subst h
          exact pNamed_ne hk
        · split at h
          · cases h
          · injection h with h; omega
      · split at h
        · split at h
          · rename_i hk
            injection h with h
            subst h
            exact pFun_ne hk
          · split at h
            · cases h
            · injection h with h; omega
        · injection h with h; omega

theorem lineRes_ne {s : ByteArray} {e : Int} (h : lineRes s = .error e) : e ≠ 0 := by
  unfold lineRes at h
  split at h
  · exact pLine_ne h
  · rename_i hc
    injection h with h
    subst h
    exact hc

end Go.Proofs.YtieoddnaknpmlabGreatDoor

/- What tree.Read answers, at every text: what is wrong first, or the module. -/
namespace Go.Proofs.YtieoddnaknpmlabGreatDoor
open Go.RowKit
set_option maxRecDepth 100000

def noMo : Mo := ⟨[], [], []⟩
/-- what lines declare, one by one. -/
def readAll : List ByteArray → Mo → Except Int Mo
  | [], m => .ok m
  | s :: r, m => match lineRes s with
    | .error e => .error e
    | .ok d => readAll r (putLine m d)
def readErr (s : ByteArray) : Int := if 1500 < s.size then 1 else match readAll (linesOf s) noMo with
  | .error e => e
  | .ok m => moFault m
def readMo (s : ByteArray) : Mo := if 1500 < s.size then noMo else match readAll (linesOf s) noMo with
  | .error _ => noMo
  | .ok m => if moFault m = 0 then m else noMo

theorem noMo_is {S : Nat → Prop} {w : World} : MoIs S w noMo (.agg #[.slice none 0 0, .slice none 0 0, .slice none 0 0]) := ⟨_, _, _, rfl, none_sl, none_sl, none_sl⟩

theorem put_len {m : Mo} {d : Line} {k : Nat} (h : m.uses.length ≤ k ∧ m.types.length ≤ k ∧ m.funcs.length ≤ k) : (putLine m d).uses.length ≤ k + 1 ∧ (putLine m d).types.length ≤ k + 1 ∧ (putLine m d).funcs.length ≤ k + 1 := by
  cases d <;> simp [putLine] <;> omega

theorem linesOf_le (s : ByteArray) : (linesOf s).length ≤ s.size + 1 := by
  have h1 : 1 ≤ (⟨#[10]⟩ : ByteArray).size := Nat.le_refl _
  have hle := Lib.countB_le ⟨#[10]⟩ h1 s.size s (Nat.le_refl _)
  have hlen := Lib.splitB_all ⟨#[10]⟩ h1 0 _ s rfl
  unfold linesOf
  omega

/-- three cells of a block that is there take what is stored. -/
theorem three_set {w : World} {b : Nat} {x y z : Value} {T : TypeId} (h : w.heap[b]? = some (.cells #[x, y, z] T (0, 0))) (u v t : Value) :
    (((w.setCell ⟨b, 0, none⟩ u).setCell ⟨b, 1, none⟩ v).setCell ⟨b, 2, none⟩ t).cell? ⟨b, 0, none⟩ = some u ∧ (((w.setCell ⟨b, 0, none⟩ u).setCell ⟨b, 1, none⟩ v).setCell ⟨b, 2, none⟩ t).cell? ⟨b, 1, none⟩ = some v ∧ (((w.setCell ⟨b, 0, none⟩ u).setCell ⟨b, 1, none⟩ v).setCell ⟨b, 2, none⟩ t).cell? ⟨b, 2, none⟩ = some t := by
  have h3 := block_set (block_set (block_set h 0 u) 1 v) 2 t
  refine ⟨?_, ?_, ?_⟩ <;> (rw [cell_of_row _ b _ _ _ _ h3]; rfl)

set_option maxHeartbeats 8000000 in
theorem read_all (s : ByteArray) (w : World) : Calls Tryz.prog 5 #[.string s] w fun e w' => Below w.heap.size w w' ∧ ∃ v, e = .returned (.tuple #[v, .int .i64 (readErr s)]) ∧ MoIs (Fresh w.heap.size w') w' (readMo s) v := by
  by_cases h15 : 1500 < s.size
  · have h15' : (1500 : Int) < (s.size : Int) := by omega
    have HE : Hid (readErr s = 1) := if_pos h15
    have HMo : Hid (readMo s = noMo) := if_pos h15
    go_enter Tryz.func5, Tryz.ntmps5
    go_wp2_with fail
    exact bodyPost_ret (v := .tuple #[.agg #[.slice none 0 0, .slice none 0 0, .slice none 0 0], .int .i64 1]) (by simp [results, Tryz.results5, go_sem]) rfl
      ⟨(Below.refl _ _).alloc (Nat.le_refl _) _, _, by rw [HE.out], by rw [HMo.out]; exact noMo_is⟩
  · have h15' : ¬ (1500 : Int) < (s.size : Int) := by omega
    have hll := linesOf_le s
    have hE : readErr s = match readAll (linesOf s) noMo with
      | .error e => e
      | .ok m => moFault m := if_neg h15
    have hMo : readMo s = match readAll (linesOf s) noMo with
      | .error _ => noMo
      | .ok m => if moFault m = 0 then m else noMo := if_neg h15
    have HE := veil hE
    have HMo := veil hMo
    have HSp := veil (split_lines s (by omega) ((w.alloc (.cells #[.slice none 0 0, .slice none 0 0, .slice none 0 0] 26)).alloc (.cells #[.slice none 0 0, .slice none 0 0, .slice none 0 0] 26)))
    clear hE hMo
    generalize linesOf s = L at *
    have hw1 : ∃ w1, ((w.alloc (.cells #[.slice none 0 0, .slice none 0 0, .slice none 0 0] 26)).alloc (.cells #[.slice none 0 0, .slice none 0 0, .slice none 0 0] 26)).alloc (.cells (L.map Value.string).toArray 9) = w1 ∧ w1.heap.size = w.heap.size + 3 ∧
        w1.heap[w.heap.size]? = some (.cells #[.slice none 0 0, .slice none 0 0, .slice none 0 0] 26 (0, 0)) ∧ w1.heap[w.heap.size + 1]? = some (.cells #[.slice none 0 0, .slice none 0 0, .slice none 0 0] 26 (0, 0)) ∧ w1.heap[w.heap.size + 2]? = some (.cells (L.map Value.string).toArray 9 (0, 0)) ∧ Below w.heap.size w w1 := by
      have n0 : (w.alloc (.cells #[.slice none 0 0, .slice none 0 0, .slice none 0 0] 26)).heap.size = w.heap.size + 1 := by simp
      have n1 : ((w.alloc (.cells #[.slice none 0 0, .slice none 0 0, .slice none 0 0] 26)).alloc (.cells #[.slice none 0 0, .slice none 0 0, .slice none 0 0] 26)).heap.size = w.heap.size + 2 := by simp
      have a0 := heap_alloc_new w (.cells #[.slice none 0 0, .slice none 0 0, .slice none 0 0] 26)
      have a1 := heap_alloc_new (w.alloc (.cells #[.slice none 0 0, .slice none 0 0, .slice none 0 0] 26)) (.cells #[.slice none 0 0, .slice none 0 0, .slice none 0 0] 26)
      have a2 := heap_alloc_new ((w.alloc (.cells #[.slice none 0 0, .slice none 0 0, .slice none 0 0] 26)).alloc (.cells #[.slice none 0 0, .slice none 0 0, .slice none 0 0] 26)) (.cells (L.map Value.string).toArray 9)
      rw [n0] at a1
      rw [n1] at a2
      refine ⟨_, rfl, by simp, ?_, ?_, a2, (((Below.refl _ _).alloc (Nat.le_refl _) _).alloc (by omega) _).alloc (by omega) _⟩
      · rw [heap_alloc_old _ _ (by omega), heap_alloc_old _ _ (by omega)]; exact a0
      · rw [heap_alloc_old _ _ (by omega)]; exact a1
    obtain ⟨w1, hwe, hs1, p0, p1, p2, hbel⟩ := hw1
    have HP0 := veil p0
    have HP2 := veil p2
    have HBel := veil hbel
    have HM0 : Hid (ModAt (w.heap.size + 3) (w.heap.size + 1) (w.heap.size + 3) noMo (.slice none 0 0) (.slice none 0 0) (.slice none 0 0) w1) :=
      ⟨p1, by omega, by omega, by omega, ⟨[], ⟨rfl, Or.inl ⟨rfl, rfl⟩⟩, fun g h => (by cases h), fun j hj => absurd hj (by simp [noMo])⟩, ⟨[], ⟨rfl, Or.inl ⟨rfl, rfl⟩⟩, fun g h => (by cases h), fun j hj => absurd hj (by simp [noMo])⟩, ⟨[], ⟨rfl, Or.inl ⟨rfl, rfl⟩⟩, fun g h => (by cases h), fun j hj => absurd hj (by simp [noMo])⟩⟩
    clear p0 p1 p2 hbel
    go_enter Tryz.func5, Tryz.ntmps5
    go_wp2_with fail
    refine HSp.out.mono ?_
    rintro e wx ⟨rfl, hwx⟩
    rw [hwe] at hwx
    subst hwx
    clear hwe HSp
    go_wp2_with fail
    go_loopw [16] (fun i wr => ∃ k : Nat, k ≤ L.length ∧ i = .int .i64 k ∧ ∃ mo n1 vu vt vf, ModAt (w.heap.size + 3) (w.heap.size + 1) n1 mo vu vt vf wr ∧ (mo.uses.length ≤ k ∧ mo.types.length ≤ k ∧ mo.funcs.length ≤ k) ∧ readAll (L.drop k) mo = readAll L noMo ∧ BelowM (w.heap.size + 3) (w.heap.size + 1) wx wr) (fun i _ => L.length - (intOf i).toNat)
    case atStart => exact ⟨0, Nat.zero_le _, rfl, noMo, _, _, _, _, HM0.out, ⟨Nat.le_refl _, Nat.le_refl _, Nat.le_refl _⟩, rfl, ⟨rfl, rfl, rfl, Nat.le_refl _, fun _ _ _ => rfl⟩⟩
    case round =>
      obtain ⟨k, hk, rfl, mo, n1, vu, vt, vf, hmod, hlens, hra, hbm⟩ := hrel
      obtain ⟨hl1, hl2, hl3⟩ := hlens
      obtain ⟨yu, hyu⟩ := hmod.us
      obtain ⟨yt, hyt⟩ := hmod.ts
      obtain ⟨yf, hyf⟩ := hmod.fs
      obtain ⟨au, cu, hvu⟩ := own_slice hyu.own
      obtain ⟨at', ct, hvt⟩ := own_slice hyt.own
      obtain ⟨af, cf, hvf⟩ := own_slice hyf.own
      subst hvu hvt hvf
      clear hyu hyt hyf
      have HMod := veil hmod
      have HRa := veil hra
      have HBm := veil hbm
      have HZ : Hid (∀ W', BelowM (w.heap.size + 3) (w.heap.size + 1) wx W' → W'.heap[w.heap.size]? = some (.cells #[.slice none 0 0, .slice none 0 0, .slice none 0 0] 26 (0, 0))) := fun W' h => (h.block w.heap.size (by omega) (by omega)).trans HP0.out
      have HBw : Hid (∀ W', BelowM (w.heap.size + 3) (w.heap.size + 1) wx W' → Below w.heap.size w W') := fun W' h => HBel.out.trans ⟨h.os, h.tape, h.output, h.size, fun b hb => h.block b (by omega) (by omega)⟩
      by_cases hlt : k < L.length
      · have hlt' : (k : Int) < (L.length : Int) := by omega
        have c0 : wr.cell? ⟨w.heap.size + 1 + 1, k, none⟩ = some (.string (L[k]'hlt)) := by
          rw [cell_of_row wr (w.heap.size + 1 + 1) k _ _ _ ((hbm.block (w.heap.size + 2) (by omega) (by omega)).trans HP2.out)]
          simp [hlt]
        have hd : L.drop k = L[k]'hlt :: L.drop (k + 1) := List.drop_eq_getElem_cons hlt
        rw [hd, readAll] at HRa
        clear hd hmod hra hbm
        generalize L[k]'hlt = ln at *
        go_wp2_with fail
        refine (line_next ln (w.heap.size + 3) (w.heap.size + 1) n1 mo _ _ _ wr HMod.out (by omega) (by omega) (by omega)).mono ?_
        rintro e w' ⟨x, rfl, hbm', ⟨er, hr, rfl⟩ | ⟨d, hr, rfl, n1', vu', vt', vf', hmod'⟩⟩
        · rw [hr] at HRa
          have hne := lineRes_ne hr
          have hne' : (x != 0) = true := by simpa using hne
          have HE1 : Hid (readErr s = x) := by show _ = _; rw [HE.out, ← HRa.out]
          have HM1 : Hid (readMo s = noMo) := by show _ = _; rw [HMo.out, ← HRa.out]
          have hbx := HBm.out.trans hbm'
          have hz := HZ.out w' hbx
          have HBw1 := veil (HBw.out w' hbx)
          have HT := veil (three_set hz (.slice none 0 0) (.slice none 0 0) (.slice none 0 0))
          have z0 : w'.cell? ⟨w.heap.size, 0, none⟩ = some (.slice none 0 0) := by rw [cell_of_row w' _ 0 _ _ _ hz]; rfl
          have z1 : w'.cell? ⟨w.heap.size, 1, none⟩ = some (.slice none 0 0) := by rw [cell_of_row w' _ 1 _ _ _ hz]; rfl
          have z2 : w'.cell? ⟨w.heap.size, 2, none⟩ = some (.slice none 0 0) := by rw [cell_of_row w' _ 2 _ _ _ hz]; rfl
          have f0 := Lib.frozen_of_heap hz 0
          have f1 := Lib.frozen_of_heap hz 1
          have f2 := Lib.frozen_of_heap hz 2
          clear hr hne hbm' hbx hz HRa HE HMo HMod HBm c0
          go_wp2_with fail
          obtain ⟨q0, q1, q2⟩ := HT.out
          exact bodyPost_ret (v := .tuple #[.agg #[.slice none 0 0, .slice none 0 0, .slice none 0 0], .int .i64 x]) (by simp [results, Tryz.results5, go_sem, q0, q1, q2]) rfl
            ⟨((HBw1.out.setCell (p := ⟨w.heap.size, 0, none⟩) (Nat.le_refl _) _).setCell (p := ⟨w.heap.size, 1, none⟩) (Nat.le_refl _) _).setCell (p := ⟨w.heap.size, 2, none⟩) (Nat.le_refl _) _, _, by rw [HE1.out], by rw [HM1.out]; exact noMo_is⟩
        · rw [hr] at HRa
          have HMod' := veil hmod'
          have HBm' := veil (HBm.out.trans hbm')
          have HL' := veil (put_len (m := mo) (d := d) (k := k) ⟨hl1, hl2, hl3⟩)
          clear hr hbm' hmod' HMod HBm c0
          go_wp2_with fail
          exact ⟨⟨k + 1, by omega, by go_num, putLine mo d, n1', vu', vt', vf', HMod'.out, HL'.out, HRa.out, HBm'.out⟩, by simp [intOf]; omega⟩
      · have hke : k = L.length := by omega
        have hnl : ¬ (k : Int) < (L.length : Int) := by omega
        rw [hke, List.drop_length, readAll] at HRa
        have hb1 := hmod.mod
        have c0 : wr.cell? ⟨w.heap.size + 1, 0, none⟩ = some (.slice au mo.uses.length cu) := by rw [cell_of_row wr _ 0 _ _ _ hb1]; rfl
        have c1 : wr.cell? ⟨w.heap.size + 1, 1, none⟩ = some (.slice at' mo.types.length ct) := by rw [cell_of_row wr _ 1 _ _ _ hb1]; rfl
        have c2 : wr.cell? ⟨w.heap.size + 1, 2, none⟩ = some (.slice af mo.funcs.length cf) := by rw [cell_of_row wr _ 2 _ _ _ hb1]; rfl
        have HIs := veil (hmod.is (by unfold maxLen; omega) (by unfold maxLen; omega) (by unfold maxLen; omega))
        have hsz : w.heap.size + 3 ≤ wr.heap.size := by have := hbm.size; omega
        clear hmod hra hbm hb1
        go_wp2_with fail
        refine (treeCheck_any _ mo _ wr (fun b hb => hb.2) HIs.out).mono ?_
        rintro e w' ⟨rfl, hb⟩
        have hbx := HBm.out.trans (BelowM.of_below hb (by omega))
        have hz := HZ.out w' hbx
        have HBw1 := veil (HBw.out w' hbx)
        have HIs2 := veil (HIs.out.keep (S' := Fresh (w.heap.size + 3) w') ⟨fun b hb' => hb.block b hb'.2, fun b hb' => ⟨hb'.1, Nat.lt_of_lt_of_le hb'.2 hb.size⟩⟩)
        have z0 : w'.cell? ⟨w.heap.size, 0, none⟩ = some (.slice none 0 0) := by rw [cell_of_row w' _ 0 _ _ _ hz]; rfl
        have z1 : w'.cell? ⟨w.heap.size, 1, none⟩ = some (.slice none 0 0) := by rw [cell_of_row w' _ 1 _ _ _ hz]; rfl
        have z2 : w'.cell? ⟨w.heap.size, 2, none⟩ = some (.slice none 0 0) := by rw [cell_of_row w' _ 2 _ _ _ hz]; rfl
        have d0 : w'.cell? ⟨w.heap.size + 1, 0, none⟩ = some (.slice au mo.uses.length cu) := (hb.cell (p := ⟨w.heap.size + 1, 0, none⟩) (by show w.heap.size + 1 < _; omega)).trans c0
        have d1 : w'.cell? ⟨w.heap.size + 1, 1, none⟩ = some (.slice at' mo.types.length ct) := (hb.cell (p := ⟨w.heap.size + 1, 1, none⟩) (by show w.heap.size + 1 < _; omega)).trans c1
        have d2 : w'.cell? ⟨w.heap.size + 1, 2, none⟩ = some (.slice af mo.funcs.length cf) := (hb.cell (p := ⟨w.heap.size + 1, 2, none⟩) (by show w.heap.size + 1 < _; omega)).trans c2
        have f0 := Lib.frozen_of_heap hz 0
        have f1 := Lib.frozen_of_heap hz 1
        have f2 := Lib.frozen_of_heap hz 2
        have HEm : Hid (readErr s = moFault mo) := by show _ = _; rw [HE.out, ← HRa.out]
        by_cases hmf : moFault mo = 0
        · have HM1 : Hid (readMo s = mo) := by show _ = _; rw [HMo.out, ← HRa.out]; exact if_pos hmf
          have HE1 : Hid (readErr s = 0) := HEm.out.trans hmf
          have HT := veil (three_set hz (.slice au mo.uses.length cu) (.slice at' mo.types.length ct) (.slice af mo.funcs.length cf))
          rw [hmf]
          clear hbx hz hb c0 c1 c2 HE HMo HMod HBm HRa HIs hmf
          go_wp2_with fail
          obtain ⟨q0, q1, q2⟩ := HT.out
          refine bodyPost_ret (v := .tuple #[.agg #[.slice au mo.uses.length cu, .slice at' mo.types.length ct, .slice af mo.funcs.length cf], .int .i64 0]) (by simp [results, Tryz.results5, go_sem, q0, q1, q2]) rfl
            ⟨((HBw1.out.setCell (p := ⟨w.heap.size, 0, none⟩) (Nat.le_refl _) _).setCell (p := ⟨w.heap.size, 1, none⟩) (Nat.le_refl _) _).setCell (p := ⟨w.heap.size, 2, none⟩) (Nat.le_refl _) _, _, by rw [HE1.out], ?_⟩
          rw [HM1.out]
          refine HIs2.out.keep ⟨fun b hb' => ?_, fun b hb' => ⟨by have := hb'.1; omega, ?_⟩⟩
          · have h1 := hb'.1
            rw [Below.heap_setCell _ _ _ _ (by show b ≠ w.heap.size; omega), Below.heap_setCell _ _ _ _ (by show b ≠ w.heap.size; omega), Below.heap_setCell _ _ _ _ (by show b ≠ w.heap.size; omega)]
          · rw [heap_size_setCell, heap_size_setCell, heap_size_setCell]; exact hb'.2
        · have hne' : (moFault mo != 0) = true := by simpa using hmf
          have HM1 : Hid (readMo s = noMo) := by show _ = _; rw [HMo.out, ← HRa.out]; exact if_neg hmf
          have HT := veil (three_set hz (.slice none 0 0) (.slice none 0 0) (.slice none 0 0))
          clear hbx hz hb c0 c1 c2 HE HMo HMod HBm HRa HIs hmf
          generalize moFault mo = y at *
          go_wp2_with fail
          obtain ⟨q0, q1, q2⟩ := HT.out
          exact bodyPost_ret (v := .tuple #[.agg #[.slice none 0 0, .slice none 0 0, .slice none 0 0], .int .i64 y]) (by simp [results, Tryz.results5, go_sem, q0, q1, q2]) rfl
            ⟨((HBw1.out.setCell (p := ⟨w.heap.size, 0, none⟩) (Nat.le_refl _) _).setCell (p := ⟨w.heap.size, 1, none⟩) (Nat.le_refl _) _).setCell (p := ⟨w.heap.size, 2, none⟩) (Nat.le_refl _) _, _, by rw [HEm.out], by rw [HM1.out]; exact noMo_is⟩

end Go.Proofs.YtieoddnaknpmlabGreatDoor
