/- What readLine answers, at every line and every module: what is wrong first; or the module with what the line declares. -/
import Derived.Test.YtpamadnckijfkabGreatDoorReadUse
import Derived.Test.YtpamadnckijfkabGreatDoorReadFun2
import Derived.Test.YtpamadnckijfkabGreatDoorCut
import Derived.Test.YtpamadnckijfkabGreatDoorCutOk
namespace Go.Proofs.YtpamadnckijfkabGreatDoor
open Go.RowKit
set_option maxRecDepth 100000

/-- what a line declares, or what is wrong with it. -/
def lineRes (s : ByteArray) : Except Int Line := if cutErr s = 0 then pLine (cutToks s) else .error (cutErr s)

/-- from W to W' nothing has turned below base but block M. -/
structure BelowM (base M : Nat) (W W' : World) : Prop where
  os : W'.os = W.os
  tape : W'.tape = W.tape
  output : W'.output = W.output
  size : W.heap.size ≤ W'.heap.size
  block : ∀ k, k < base → k ≠ M → W'.heap[k]? = W.heap[k]?

theorem BelowM.of_below {base M n : Nat} {W W' : World} (h : Below n W W') (hn : base ≤ n) : BelowM base M W W' := ⟨h.os, h.tape, h.output, h.size, fun k hk _ => h.block k (by omega)⟩
theorem BelowM.trans {base M : Nat} {W W' W'' : World} (h : BelowM base M W W') (h' : BelowM base M W' W'') : BelowM base M W W'' :=
  ⟨h'.os.trans h.os, h'.tape.trans h.tape, h'.output.trans h.output, Nat.le_trans h.size h'.size, fun k hk hne => (h'.block k hk hne).trans (h.block k hk hne)⟩
theorem GrewM.belowM {base M o c : Nat} {cells : Array Value} {T : TypeId} {v v' : Value} {n n' : Nat} {ys ys' : List Value} {W W' : World} (h : GrewM base M o cells T c v v' n' ys' W W') (hown : W.ownsRow base T c v n ys) (hW : base ≤ W.heap.size) : BelowM base M W W' :=
  ⟨h.os, h.tape, h.output, h.size, fun k hk hne => h.rest k (by omega) hne (fun e => by have := ownsRow_in hown _ e.symm; omega)⟩

/-- what is said of a line: the answer, and the module behind it. -/
def LineR (base M : Nat) (mo : Mo) (W : World) (r : Except Int Line) (x : Int) (w' : World) : Prop := BelowM base M W w' ∧ ((∃ e, r = .error e ∧ x = e) ∨ ∃ d, r = .ok d ∧ x = 0 ∧ ∃ n1 vu vt vf, ModAt base M n1 (putLine mo d) vu vt vf w')

theorem own_slice {W : World} {base c n : Nat} {T : TypeId} {v : Value} {ys : List Value} (h : W.ownsRow base T c v n ys) : ∃ la cap, v = .slice la n cap := by
  rcases h.2 with ⟨h1, h2⟩ | ⟨g, cap, _, h1, _⟩
  · exact ⟨none, 0, by rw [h1, h2]⟩
  · exact ⟨_, cap, h1⟩

theorem toks_of {w w' : World} {v : Value} {l : Toks} {B : Nat} (h : TokRow w v l) (hB : w.heap.size = B) (hb : Below w.heap.size w w') (h2 : l.length ≤ 200) (h3 : ∀ t ∈ l, faultOf t = 0) : ToksAt B w' v l := by
  refine ⟨⟨h2, fun t ht h1 => ?_⟩, ?_⟩
  · have := h3 t ht
    unfold faultOf at this
    rcases fault_sound this with ⟨h, _⟩ | ⟨_, h⟩ | ⟨h, _⟩ | ⟨h, _⟩
    · omega
    · exact h
    · omega
    · omega
  · rcases h with h | ⟨b, off, cap, rfl, hlt, _, hc⟩
    · exact Or.inl h
    · refine Or.inr ⟨b, off, cap, rfl, by omega, fun i hi => ?_⟩
      have h := hc i hi
      rw [List.getD_eq_getElem?_getD, List.getElem?_eq_getElem hi] at h
      exact ⟨(hb.cell (p := ⟨b, off + i * 2, none⟩) hlt).trans h.1, (hb.cell (p := ⟨b, off + i * 2 + 1, none⟩) hlt).trans h.2.1, h.2.2⟩

/-- where a line is read to its end. -/
theorem lineR_fin {base M : Nat} {mo : Mo} {W w' : World} {l : Toks} {j : Nat} {d : Line} {r : Except Int Line} (hb : BelowM base M W w') (hr : r = if l.length ≤ j then .ok d else .error 4) (hm : ∃ n1 vu vt vf, ModAt base M n1 (putLine mo d) vu vt vf w') :
    LineR base M mo W r (if l.length ≤ j then 0 else 4) w' := by
  refine ⟨hb, ?_⟩
  by_cases h : l.length ≤ j
  · rw [if_pos h] at hr ⊢
    exact Or.inr ⟨d, hr, rfl, hm⟩
  · rw [if_neg h] at hr ⊢
    exact Or.inl ⟨4, hr, rfl⟩

set_option maxHeartbeats 8000000 in
theorem line_next (s : ByteArray) (base M n1 : Nat) (mo : Mo) (vu vt vf : Value) (W : World) (h : ModAt base M n1 mo vu vt vf W) (hu : mo.uses.length ≤ 2000) (ht : mo.types.length ≤ 2000) (hf : mo.funcs.length ≤ 2000) :
    Calls Tryz.prog 11 #[.string s, .pointer (some ⟨M, 0, none⟩)] W (Ends (LineR base M mo W (lineRes s))) := by
  have hM := h.hM
  have hb := h.hb
  have hn := h.hn
  have HMod := veil h
  have hal0 : Below W.heap.size W (W.alloc (.cells #[.pointer (some ⟨M, 0, none⟩)] 39)) := (Below.refl _ _).alloc (Nat.le_refl _) _
  have HB0 := veil hal0
  have hef := makeFunc_run
  clear h hal0
  go_enter Tryz.func11, Tryz.ntmps11
  go_wp2_with fail
  refine (cut_all s _).mono ?_
  rintro e w1 ⟨v, rfl, hv, hb1⟩
  have hsz1 : W.heap.size + 1 ≤ w1.heap.size := by have := hb1.size; simpa using this
  have hbel1 : Below W.heap.size W w1 := HB0.out.trans (hb1.mono (by simp))
  have HB1 := veil hbel1
  have cm1 : w1.cell? ⟨W.heap.size, 0, none⟩ = some (.pointer (some ⟨M, 0, none⟩)) := (hb1.cell (p := ⟨W.heap.size, 0, none⟩) (by simp)).trans (World.cell?_alloc_at _ _ _ _ rfl)
  by_cases hce : cutErr s = 0
  · have hLR : lineRes s = pLine (cutToks s) := if_pos hce
    have HLR := veil hLR
    obtain ⟨_, _, h200, hval⟩ := cut_sound hce
    rw [hce]
    generalize cutToks s = l at *
    by_cases hl0 : l.length = 0
    · have hR : LineR base M mo W (lineRes s) 0 w1 := ⟨BelowM.of_below hbel1 (by omega), Or.inr ⟨.none, by rw [hLR]; unfold pLine; simp only [hl0, if_true], rfl, n1, vu, vt, vf, HMod.out.keep (hbel1.mono hn)⟩⟩
      have HR := veil hR
      obtain ⟨a, cap, rfl⟩ : ∃ a cap, v = .slice a 0 cap := by
        rcases hv with ⟨_, h⟩ | ⟨b, off, cap, h, _⟩
        · exact h
        · exact ⟨_, cap, by rw [h, hl0]⟩
      clear hR hv hb1 hbel1 hval hLR cm1 hce
      go_wp2_with fail
      go_ret
      exact ⟨_, rfl, HR.out⟩
    · obtain ⟨a, cap, rfl⟩ : ∃ a cap, v = .slice a l.length cap := by
        rcases hv with ⟨h, _⟩ | ⟨b, off, cap, h, _⟩
        · rw [h] at hl0; exact absurd rfl hl0
        · exact ⟨_, cap, h⟩
      have hl0' : (((l.length : Nat) : Int) == 0) = false := by simpa using hl0
      have hal2 : Below w1.heap.size w1 ((w1.alloc (.cells #[.slice a l.length cap, .int .i64 0] 78)).alloc (.cells #[.pointer (some ⟨w1.heap.size, 0, none⟩)] 76)) := ((Below.refl _ _).alloc (Nat.le_refl _) _).alloc (by simp) _
      have hrd : RdAt w1.heap.size l 0 ((w1.alloc (.cells #[.slice a l.length cap, .int .i64 0] 78)).alloc (.cells #[.pointer (some ⟨w1.heap.size, 0, none⟩)] 76)) := by
        refine ⟨.slice a l.length cap, ?_, toks_of hv rfl hal2 h200 hval, Nat.zero_le _⟩
        rw [heap_alloc_old _ _ (by simp)]
        exact heap_alloc_new w1 _
      have hw2 : ∃ w2, ((w1.alloc (.cells #[.slice a l.length cap, .int .i64 0] 78)).alloc (.cells #[.pointer (some ⟨w1.heap.size, 0, none⟩)] 76)) = w2 ∧ w2.cell? ⟨W.heap.size, 0, none⟩ = some (.pointer (some ⟨M, 0, none⟩)) ∧ w2.cell? ⟨w1.heap.size + 1, 0, none⟩ = some (.pointer (some ⟨w1.heap.size, 0, none⟩)) ∧ w2.heap.size = w1.heap.size + 2 :=
        ⟨_, rfl, (World.cell?_alloc_old _ _ _ (by show W.heap.size ≠ _; simp; omega)).trans ((World.cell?_alloc_old _ _ _ (by show W.heap.size ≠ _; omega)).trans cm1), World.cell?_alloc_at _ _ _ _ (by simp), by simp⟩
      obtain ⟨w2, hwe, y0, y1, hs2⟩ := hw2
      rw [hwe] at hal2 hrd
      have HX := veil (show ∀ W', Moved w1.heap.size w2 W' → Below W.heap.size W W' ∧ W'.cell? ⟨W.heap.size, 0, none⟩ = some (.pointer (some ⟨M, 0, none⟩)) ∧ W'.cell? ⟨w1.heap.size + 1, 0, none⟩ = some (.pointer (some ⟨w1.heap.size, 0, none⟩)) from fun W' hm =>
        ⟨(hbel1.trans (hal2.mono (by omega))).trans (hm.below.mono (by omega)), (hm.below.cell (p := ⟨W.heap.size, 0, none⟩) (by show W.heap.size < _; omega)).trans y0, (hm.cell (by omega) (by omega) 0).trans y1⟩)
      have HR2 := veil hrd
      have HL0 := veil hl0
      clear hal2 hrd hv hb1 hbel1 hval h200 cm1 hLR hce hl0
      go_wp2_with fail
      try rw [hwe]
      refine (word_next w1.heap.size l 0 ⟨#[117, 115, 101]⟩ _ HR2.out).mono ?_
      rintro e w3 ⟨rfl, q1, q2⟩
      have HN3 := veil q2
      have hsz3 := q2.below.size
      obtain ⟨hbx3, k0, k1⟩ := HX.out w3 q2
      have HBel3 := veil hbx3
      cases hu1 : wrd l 0 [117, 115, 101]
      case true =>
        have hu1' : wrd l 0 (ByteArray.mk #[117, 115, 101]).data.toList = true := hu1
        rw [hu1'] at q1
        have q1' : RdAt w1.heap.size l 1 w3 := q1
        have hmod3 := HMod.out.keep (hbx3.mono hn)
        obtain ⟨yu, hyu⟩ := hmod3.us
        obtain ⟨la, lcap, hvu⟩ := own_slice hyu.own
        subst hvu
        have hP : lineRes s = match identAt l 1 with
          | .none => .error 4
          | .some t => if l.length ≤ 2 then .ok (.use t) else .error 4 := by
          rw [HLR.out]; unfold pLine; simp only [HL0.out, if_false, hu1, if_true]; rfl
        have cU := use_next (LineR base M mo W (lineRes s)) base M n1 w1.heap.size #[.slice la mo.uses.length lcap, vt, vf] la lcap mo.uses.length yu l 1 w3 q1' hmod3.mod rfl hyu.own hyu.old hM hb (by omega) (by unfold maxLen; omega) (by omega)
          (fun hi w' hm' => ⟨BelowM.of_below (HX.out w' (HN3.out.trans hm')).1 (by omega), Or.inl ⟨4, by rw [hP, hi], rfl⟩⟩)
          (fun t hi hts g cap' wa wb w' hm' hG hb' => by
            have hbx := (HX.out wa (HN3.out.trans hm')).1
            have hsza := hm'.below.size
            have hma := HMod.out.keep (hbx.mono hn)
            have hya : RowIs StC 9 1 base n1 (MParts base n1 (.slice la mo.uses.length lcap) vt vf) mo.uses (.slice la mo.uses.length lcap) yu wa := RowIs.keep (C := StC) (fun hk h => stC_keep hk h) hyu ⟨fun b hb' => (hm'.below.block b (by have := hb'.2.1; omega)), fun _ h => h⟩ (fun g' hg' => hm'.below.block g' (by have := hyu.old g' hg'; omega)) (Nat.le_refl _)
            have hmb := ModAt.pushU hma hya hG hts
            refine lineR_fin (d := .use t) ?_ (by rw [hP, hi]) ⟨_, _, _, _, hmb.keep hb'⟩
            exact ((BelowM.of_below hbx (by omega)).trans (hG.belowM hya.own (by omega))).trans (BelowM.of_below hb' (by have := hG.size; omega)))
        have HCU := veil cU
        try rw [hu1']
        clear q1 q1' q2 hu1 hu1' hmod3 cU hP hbx3 hwe y0 y1 hyu
        go_wp2_with fail
        refine HCU.out.mono ?_
        rintro e w' ⟨y, rfl, hy⟩
        have HY := veil hy
        clear hy
        go_wp2_with fail
        go_ret
        exact ⟨_, rfl, HY.out⟩
      have hu1' : wrd l 0 (ByteArray.mk #[117, 115, 101]).data.toList = false := hu1
      rw [hu1'] at q1
      have HR3 : Hid (RdAt w1.heap.size l 0 w3) := q1
      have HU1 := veil hu1
      try rw [hu1']
      clear q1 q2 hu1 hu1' hbx3 hwe y0 y1
      go_wp2_with fail
      refine (word_next w1.heap.size l 0 ⟨#[116, 121, 112, 101]⟩ _ HR3.out).mono ?_
      rintro e w4 ⟨rfl, q1, q2⟩
      have HN4 := veil (HN3.out.trans q2)
      have hsz4 := q2.below.size
      obtain ⟨hbx4, j0, j1⟩ := HX.out w4 HN4.out
      clear k0 k1
      cases hu2 : wrd l 0 [116, 121, 112, 101]
      case true =>
        have hu2' : wrd l 0 (ByteArray.mk #[116, 121, 112, 101]).data.toList = true := hu2
        rw [hu2'] at q1
        have q1' : RdAt w1.heap.size l 1 w4 := q1
        have hPb : ∀ e, pNamed l [61] 1 = .bad e → lineRes s = .error e := fun e he => by
          rw [HLR.out]; unfold pLine; simp only [HL0.out, if_false, HU1.out, hu2, if_true, he]; rfl
        have hPo : ∀ x j, pNamed l [61] 1 = .ok x j → lineRes s = if l.length ≤ j then .ok (.typ x) else .error 4 := fun x j he => by
          rw [HLR.out]; unfold pLine; simp only [HL0.out, if_false, HU1.out, hu2, if_true, he]; rfl
        have cN := named_next w1.heap.size l 1 ⟨#[61]⟩ w4 33 #[.pointer (some ⟨W.heap.size, 0, none⟩), .pointer (some ⟨w1.heap.size + 1, 0, none⟩)] (enters_of Tryz.func33 (by kernel_rfl) rfl) (LineR base M mo W (lineRes s)) q1'
          (fun e he w' hm' => ⟨BelowM.of_below (HX.out w' (HN4.out.trans hm')).1 (by omega), Or.inl ⟨e, hPb e he, rfl⟩⟩)
          (fun x j hx w' v hm' hr' hv => by
            obtain ⟨hbx, g0, g1⟩ := HX.out w' (HN4.out.trans hm')
            have hma := HMod.out.keep (hbx.mono hn)
            obtain ⟨yt, hyt⟩ := hma.ts
            obtain ⟨la, lcap, hvt⟩ := own_slice hyt.own
            subst hvt
            obtain ⟨k, f, n, va, rfl, hnm, hcs⟩ := hv
            obtain ⟨va1, va2, va3, rfl⟩ := hcs.slice
            obtain ⟨ta, tcap, hrd⟩ := rd_form hr'
            have hsz' := hm'.below.size
            refine pushT_step (LineR base M mo W (lineRes s)) base M n1 W.heap.size (w1.heap.size + 1) w1.heap.size #[vu, .slice la mo.types.length lcap, vf] la lcap mo.types.length yt x.name k f n va1 va2 va3 ta l.length tcap j w' hma.mod rfl hyt.own hyt.old hM hb (by omega) (by unfold maxLen; omega) (by omega) g0 g1 hn (by omega) (by omega) hrd ?_
            intro g cap' wb w'' hG hb'
            have hmb := ModAt.pushT (x := x) hma hyt hG rfl ⟨k, f, n, va1, va2, va3, rfl, hnm, hcs.keep ⟨fun _ _ => rfl, fun b hb2 => ⟨by have := hb2.1; omega, hb2.2⟩⟩⟩
            refine lineR_fin (d := .typ x) ?_ (hPo x j hx) ⟨_, _, _, _, hmb.keep hb'⟩
            exact ((BelowM.of_below hbx (by omega)).trans (hG.belowM hyt.own (by omega))).trans (BelowM.of_below hb' (by have := hG.size; omega)))
        have HCN := veil cN
        try rw [hu2']
        clear q1 q1' q2 hu2 hu2' cN hPb hPo hbx4
        go_wp2_with fail
        refine HCN.out.mono ?_
        rintro e w' ⟨y, rfl, hy⟩
        have HY := veil hy
        clear hy
        go_wp2_with fail
        go_ret
        exact ⟨_, rfl, HY.out⟩
      have hu2' : wrd l 0 (ByteArray.mk #[116, 121, 112, 101]).data.toList = false := hu2
      rw [hu2'] at q1
      have HR4 : Hid (RdAt w1.heap.size l 0 w4) := q1
      have HU2 := veil hu2
      try rw [hu2']
      clear q1 q2 hu2 hu2' hbx4
      go_wp2_with fail
      refine (word_next w1.heap.size l 0 ⟨#[102, 117, 110, 99]⟩ _ HR4.out).mono ?_
      rintro e w5 ⟨rfl, q1, q2⟩
      have HN5 := veil (HN4.out.trans q2)
      have hsz5 := q2.below.size
      obtain ⟨hbx5, i0, i1⟩ := HX.out w5 HN5.out
      clear j0 j1
      cases hu3 : wrd l 0 [102, 117, 110, 99]
      case true =>
        have hu3' : wrd l 0 (ByteArray.mk #[102, 117, 110, 99]).data.toList = true := hu3
        rw [hu3'] at q1
        have q1' : RdAt w1.heap.size l 1 w5 := q1
        have hPb : ∀ e, pFun l 1 = .bad e → lineRes s = .error e := fun e he => by
          rw [HLR.out]; unfold pLine; simp only [HL0.out, if_false, HU1.out, HU2.out, hu3, if_true, he]; rfl
        have hPo : ∀ x j, pFun l 1 = .ok x j → lineRes s = if l.length ≤ j then .ok (.fn x) else .error 4 := fun x j he => by
          rw [HLR.out]; unfold pLine; simp only [HL0.out, if_false, HU1.out, HU2.out, hu3, if_true, he]; rfl
        have cN := fun_next w1.heap.size l 1 w5 36 #[.pointer (some ⟨W.heap.size, 0, none⟩), .pointer (some ⟨w1.heap.size + 1, 0, none⟩)] (enters_of Tryz.func36 (by kernel_rfl) rfl) (LineR base M mo W (lineRes s)) q1'
          (fun e he w' hm' => ⟨BelowM.of_below (HX.out w' (HN5.out.trans hm')).1 (by omega), Or.inl ⟨e, hPb e he, rfl⟩⟩)
          (fun x j hx w' v hm' hr' hv => by
            obtain ⟨hbx, g0, g1⟩ := HX.out w' (HN5.out.trans hm')
            have hma := HMod.out.keep (hbx.mono hn)
            obtain ⟨yf, hyf⟩ := hma.fs
            obtain ⟨la, lcap, hvf⟩ := own_slice hyf.own
            subst hvf
            obtain ⟨vp, k, f, n, va, k', n', f', s', va', rfl, hnm, hvr, hps, hcs, hce⟩ := hv
            obtain ⟨vp1, vp2, vp3, rfl⟩ := hps.slice
            obtain ⟨va1, va2, va3, rfl⟩ := hcs.slice
            obtain ⟨ve1, ve2, ve3, rfl⟩ := hce.slice
            obtain ⟨ta, tcap, hrd⟩ := rd_form hr'
            have hsz' := hm'.below.size
            refine pushF_step (LineR base M mo W (lineRes s)) base M n1 W.heap.size (w1.heap.size + 1) w1.heap.size #[vu, vt, .slice la mo.funcs.length lcap] la lcap mo.funcs.length yf x.name x.var vp1 vp2 vp3 k f n va1 va2 va3 k' n' f' s' ve1 ve2 ve3 ta l.length tcap j w' hma.mod rfl hyf.own hyf.old hM hb (by omega) (by unfold maxLen; omega) (by omega) g0 g1 hn (by omega) (by omega) hrd ?_
            intro g cap' wb w'' hG hb'
            have hk2 : Keeps (Fresh w5.heap.size w') (Fresh n1 w') w' w' := ⟨fun _ _ => rfl, fun b hb2 => ⟨by have := hb2.1; omega, hb2.2⟩⟩
            have hmb := ModAt.pushF (x := x) hma hyf hG rfl ⟨vp1, vp2, vp3, k, f, n, va1, va2, va3, k', n', f', s', ve1, ve2, ve3, rfl, hnm, hvr, fdSl_keep hk2 hps, hcs.keep hk2, hce.keep hk2⟩
            refine lineR_fin (d := .fn x) ?_ (hPo x j hx) ⟨_, _, _, _, hmb.keep hb'⟩
            exact ((BelowM.of_below hbx (by omega)).trans (hG.belowM hyf.own (by omega))).trans (BelowM.of_below hb' (by have := hG.size; omega)))
        have HCN := veil cN
        try rw [hu3']
        clear q1 q1' q2 hu3 hu3' cN hPb hPo hbx5
        go_wp2_with fail
        refine HCN.out.mono ?_
        rintro e w' ⟨y, rfl, hy⟩
        have HY := veil hy
        clear hy
        go_wp2_with fail
        go_ret
        exact ⟨_, rfl, HY.out⟩
      have hu3' : wrd l 0 (ByteArray.mk #[102, 117, 110, 99]).data.toList = false := hu3
      have HRes : Hid (LineR base M mo W (lineRes s) 4 w5) := ⟨BelowM.of_below hbx5 (by omega), Or.inl ⟨4, by rw [HLR.out]; unfold pLine; simp only [HL0.out, if_false, HU1.out, HU2.out, hu3]; rfl, rfl⟩⟩
      try rw [hu3']
      clear q1 q2 hu3 hu3' hbx5 i0 i1
      go_wp2_with fail
      go_ret
      exact ⟨_, rfl, HRes.out⟩
  · have hR : LineR base M mo W (lineRes s) (cutErr s) w1 := ⟨BelowM.of_below hbel1 (by omega), Or.inl ⟨_, if_neg hce, rfl⟩⟩
    have HR := veil hR
    have hce' : (cutErr s != 0) = true := by simpa using hce
    clear hR hv hb1 hbel1 cm1 hce
    generalize cutErr s = y at *
    go_wp2_with fail
    go_ret
    exact ⟨_, rfl, HR.out⟩

end Go.Proofs.YtpamadnckijfkabGreatDoor
