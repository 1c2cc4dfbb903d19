/- What the reader's fun answers, at every reader and every way back. -/
import Derived.Test.YtpamadnckijfkabGreatDoorReadFun
namespace Go.Proofs.YtpamadnckijfkabGreatDoor
open Go.RowKit
set_option maxRecDepth 100000

def FunReads : Prop := ∀ (B : Nat) (l : Toks) (i : Nat) (w : World) (g : Nat) (lb : Array Value), (∀ args w, (callFunc g args).run Tryz.prog w = .ok (.enter g args) w) → ∀ (R : Int → World → Prop), RdAt B l i w →
    (∀ e, pFun l i = .bad e → ∀ w', Moved B w w' → R e w') →
    (∀ x j, pFun l i = .ok x j → ∀ w' v, Moved B w w' → RdAt B l j w' → FuIs (Fresh w.heap.size w') w' x v → Calls Tryz.prog g (#[v] ++ lb) w' (Ends R)) →
    Calls Tryz.prog 35 #[.pointer (some ⟨B, 0, none⟩), .func (.func g) #[] lb] w (Ends R)

set_option maxHeartbeats 4000000 in
theorem fun_next : FunReads := by
  intro B l i w g lb eg R hr hbad hok
  have hlt := rd_lt hr
  have hal : Below w.heap.size w ((w.alloc (.cells #[.pointer (some ⟨B, 0, none⟩)] 76)).alloc (.cells #[.func (.func g) #[] lb] 84)) := ((Below.refl _ _).alloc (Nat.le_refl _) _).alloc (by simp) _
  have hm0 : Moved B w ((w.alloc (.cells #[.pointer (some ⟨B, 0, none⟩)] 76)).alloc (.cells #[.func (.func g) #[] lb] 84)) := Moved.of_below hal (by omega)
  have hw0 : ∃ wa, ((w.alloc (.cells #[.pointer (some ⟨B, 0, none⟩)] 76)).alloc (.cells #[.func (.func g) #[] lb] 84)) = wa ∧ wa.cell? ⟨w.heap.size, 0, none⟩ = some (.pointer (some ⟨B, 0, none⟩)) ∧ wa.cell? ⟨w.heap.size + 1, 0, none⟩ = some (.func (.func g) #[] lb) ∧ wa.heap.size = w.heap.size + 2 :=
    ⟨_, rfl, (World.cell?_alloc_old _ _ _ (by simp)).trans (World.cell?_alloc_at _ _ _ _ rfl), World.cell?_alloc_at _ _ _ _ (by simp), by simp⟩
  have hra := rd_below hr hal
  obtain ⟨wa, hwa, a0, a1, hsa⟩ := hw0
  rw [hwa] at hm0 hra
  have HM0 := veil hm0
  have HR0 := veil hra
  have HBad := veil hbad
  have HOk := veil hok
  have HEg := veil eg
  have hef := makeFunc_run
  have HXa := veil (show ∀ W, Moved B wa W → W.cell? ⟨w.heap.size, 0, none⟩ = some (.pointer (some ⟨B, 0, none⟩)) ∧ W.cell? ⟨w.heap.size + 1, 0, none⟩ = some (.func (.func g) #[] lb) from fun W h => ⟨(h.cell (by omega) (by omega) 0).trans a0, (h.cell (by omega) (by omega) 0).trans a1⟩)
  clear hbad hok hr hal eg hm0 hra
  go_enter Tryz.func35, Tryz.ntmps35
  go_wp2_with fail
  try rw [hwa]
  refine (ident_next B l i _ HR0.out).mono ?_
  rintro e w1 ⟨hm, ⟨hi, t, i', rfl, hr⟩ | ⟨t, hi, hok, rfl, hr⟩⟩
  · have hsz1 : w.heap.size + 2 ≤ w1.heap.size := by have := hm.below.size; omega
    have HB := veil (HBad.out 4 (by unfold pFun; rw [hi]) (w1.alloc (.cells #[.string t] 9)) ((HM0.out.trans hm).alloc (by omega) _))
    clear hm hi hr HBad HOk hwa a0 a1
    go_wp2_with fail
    go_ret
    exact ⟨_, rfl, HB.out⟩
  · have hsz1 : w.heap.size + 2 ≤ w1.heap.size := by have := hm.below.size; omega
    have HI := veil hi
    have HTs := veil (ident_le hok)
    obtain ⟨p0, p1⟩ := HXa.out w1 hm
    have hal2 : Below w1.heap.size w1 (w1.alloc (.cells #[.string t] 9)) := (Below.refl _ _).alloc (Nat.le_refl _) _
    have hw2 : ∃ w2, w1.alloc (.cells #[.string t] 9) = w2 ∧ w2.cell? ⟨w.heap.size, 0, none⟩ = some (.pointer (some ⟨B, 0, none⟩)) ∧ w2.cell? ⟨w.heap.size + 1, 0, none⟩ = some (.func (.func g) #[] lb) ∧ w2.cell? ⟨w1.heap.size, 0, none⟩ = some (.string t) ∧ w2.heap.size = w1.heap.size + 1 :=
      ⟨_, rfl, (World.cell?_alloc_old _ _ _ (by show w.heap.size ≠ _; omega)).trans p0, (World.cell?_alloc_old _ _ _ (by show w.heap.size + 1 ≠ _; omega)).trans p1, World.cell?_alloc_at _ _ _ _ rfl, by simp⟩
    have hm2 : Moved B w (w1.alloc (.cells #[.string t] 9)) := (HM0.out.trans hm).trans (Moved.of_below hal2 (by omega))
    have hr2 := rd_below hr hal2
    obtain ⟨w2, hwe, x0, x1, x2, hs2⟩ := hw2
    rw [hwe] at hm2 hr2
    have HM2 := veil hm2
    have HR2 := veil hr2
    have HX2 := veil (show ∀ W, Moved B w2 W → W.cell? ⟨w.heap.size, 0, none⟩ = some (.pointer (some ⟨B, 0, none⟩)) ∧ W.cell? ⟨w.heap.size + 1, 0, none⟩ = some (.func (.func g) #[] lb) ∧ W.cell? ⟨w1.heap.size, 0, none⟩ = some (.string t) from fun W h => ⟨(h.cell (by omega) (by omega) 0).trans x0, (h.cell (by omega) (by omega) 0).trans x1, (h.cell (by omega) (by omega) 0).trans x2⟩)
    clear hm hi hr hok hal2 hm2 hr2 p0 p1 a0 a1 hwa HXa HR0
    go_wp2_with fail
    try rw [hwe]
    refine (variable_next B l (i + 1) _ HR2.out).mono ?_
    rintro e w3 ⟨hm, ⟨hv, vt, rfl⟩ | ⟨vt, j, hv, hvs, rfl, hr⟩⟩
    · have hsz3 := hm.below.size
      have HB := veil (HBad.out 4 (by unfold pFun; simp only [HI.out, hv]) (w3.alloc (.cells #[.string vt] 9)) ((HM2.out.trans hm).alloc (by omega) _))
      clear hm hv HBad HOk hwe x0 x1 x2
      go_wp2_with fail
      go_ret
      exact ⟨_, rfl, HB.out⟩
    · have hsz3 := hm.below.size
      have HV := veil hv
      have HVs := veil hvs
      obtain ⟨p0, p1, p2⟩ := HX2.out w3 hm
      have hal4 : Below w3.heap.size w3 (w3.alloc (.cells #[.string vt] 9)) := (Below.refl _ _).alloc (Nat.le_refl _) _
      have hm4 : Moved B w (w3.alloc (.cells #[.string vt] 9)) := (HM2.out.trans hm).trans (Moved.of_below hal4 (by omega))
      have hr4 := rd_below hr hal4
      have hw4 : ∃ w4, w3.alloc (.cells #[.string vt] 9) = w4 ∧ FBox B w.heap.size (w.heap.size + 1) w1.heap.size w3.heap.size g lb t vt w4 ∧ w4.heap.size = w3.heap.size + 1 :=
        ⟨_, rfl, ⟨(World.cell?_alloc_old _ _ _ (by show w.heap.size ≠ _; omega)).trans p0, (World.cell?_alloc_old _ _ _ (by show w.heap.size + 1 ≠ _; omega)).trans p1, (World.cell?_alloc_old _ _ _ (by show w1.heap.size ≠ _; omega)).trans p2, World.cell?_alloc_at _ _ _ _ rfl, by omega, by omega, by omega, by omega⟩, by simp⟩
      obtain ⟨w4, hwf, hbx, hs4⟩ := hw4
      rw [hwf] at hm4 hr4
      have HM4 := veil hm4
      have HR4 := veil hr4
      have HBx := veil hbx
      have c0 := hbx.r
      clear hm hv hr hvs hal4 hm4 hr4 p0 p1 p2 x0 x1 x2 hwe HX2 HR2 hbx
      go_wp2_with fail
      try rw [hwf]
      refine (sign_next B l j ⟨#[40]⟩ _ HR4.out).mono ?_
      rintro e w5 ⟨rfl, q1, q2⟩
      have HN5 := veil q2
      have HM5 := veil (HM4.out.trans q2)
      have hsz5 := q2.below.size
      cases hs : sgn l j [40]
      · have hs' : sgn l j (ByteArray.mk #[40]).data.toList = false := hs
        have HB := veil (HBad.out 4 (by unfold pFun; simp only [HI.out, HV.out, hs]; rfl) w5 HM5.out)
        try rw [hs']
        clear q1 q2 hs hs' HBad HOk hwf c0
        go_wp2_with fail
        go_ret
        exact ⟨_, rfl, HB.out⟩
      · have hs' : sgn l j (ByteArray.mk #[40]).data.toList = true := hs
        rw [hs'] at q1
        have q1' : RdAt B l (j + 1) w5 := q1
        have cP := params_next B l (j + 1) w5 72 #[.pointer (some ⟨w.heap.size, 0, none⟩), .pointer (some ⟨w.heap.size + 1, 0, none⟩), .pointer (some ⟨w1.heap.size, 0, none⟩), .pointer (some ⟨w3.heap.size, 0, none⟩)] (enters_of Tryz.func72 (by kernel_rfl) rfl) R q1'
          (fun e he w' hm' => HBad.out e (by unfold pFun; simp only [HI.out, HV.out, hs, he]; rfl) w' (HM5.out.trans hm'))
          (fun ps j1 hp w' v hm' hr' hv => by
            obtain ⟨vp1, vp2, vp3, rfl⟩ := hv.slice
            have hsz' := hm'.below.size
            have hm6 := HM5.out.trans hm'
            exact fun_back1 B l j1 w.heap.size g lb HEg.out R _ _ _ _ t vt ps vp1 vp2 vp3 w' hr' hlt (by omega) (HBx.out.keep (HN5.out.trans hm')) HTs.out HVs.out
              (fdSl_keep ⟨fun _ _ => rfl, fun b hb => ⟨by have := hb.1; omega, hb.2⟩⟩ hv)
              (fun h1 w'' hm'' => HBad.out 4 (by unfold pFun; simp only [HI.out, HV.out, hs, hp, h1]; rfl) w'' (hm6.trans hm''))
              (fun h1 e he w'' hm'' => HBad.out e (by unfold pFun; simp only [HI.out, HV.out, hs, hp, h1, he]; rfl) w'' (hm6.trans hm''))
              (fun h1 ty j2 hty h2 w'' hm'' => HBad.out 4 (by unfold pFun; simp only [HI.out, HV.out, hs, hp, h1, hty, h2]; rfl) w'' (hm6.trans hm''))
              (fun h1 ty j2 hty h2 e he w'' hm'' => HBad.out e (by unfold pFun; simp only [HI.out, HV.out, hs, hp, h1, hty, h2, he]; rfl) w'' (hm6.trans hm''))
              (fun h1 ty j2 hty h2 x j' hx w'' v' hm'' hr'' hv' => HOk.out _ j' (by unfold pFun; simp only [HI.out, HV.out, hs, hp, h1, hty, h2, hx]; rfl) w'' v' (hm6.trans hm'') hr'' hv'))
        have HCP := veil cP
        have c5 := (HBx.out.keep HN5.out).r
        try rw [hs']
        clear q1 q1' q2 hs hs' HBad HOk hwf c0 cP
        go_wp2_with fail
        refine HCP.out.mono ?_
        rintro e w' ⟨y, rfl, hy⟩
        have HY := veil hy
        clear hy
        go_wp2_with fail
        go_ret
        exact ⟨_, rfl, HY.out⟩

end Go.Proofs.YtpamadnckijfkabGreatDoor
