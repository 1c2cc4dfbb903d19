import Derived.Test.YtagbaimfigljiaaGreatDoorJModuleUses16
import Derived.Test.YtagbaimfigljiaaGreatDoorJModuleUses13
import Derived.Test.YtagbaimfigljiaaGreatDoorJModuleUses15
import Derived.Test.YtagbaimfigljiaaGreatDoorJModuleUses14
import Derived.Test.YtagbaimfigljiaaGreatDoorJModuleUses0
import Derived.OwnWalk
import Derived.Deep.Slices
import Derived.ProofKit
import Derived.Deep.RegionHeld3
import Derived.Deep.RegionWith
import Derived.Laws.EntriesVeiled
import Derived.Shelf.SlSortCmp.WholeK
namespace Go.Proofs.YtagbaimfigljiaaGreatDoor
open Go.RowKit
set_option maxRecDepth 100000

set_option maxHeartbeats 8000000 in
set_option maxRecDepth 100000 in
theorem funcFault_any (S : Nat → Prop) (x : Fu) (v : Value) (w : World) (hS : ∀ b, S b → b < w.heap.size) (hx : FuIs S w x v) :
    Calls Tryz.prog 147 #[v] w fun e w' => e = .returned (.int .i64 (fuFault x)) ∧ Below w.heap.size w w' := by
  obtain ⟨vp, k, f, n, va, k', n', f', s', va', rfl, hsz, hsz1, hps, hcs, hce⟩ := hx
  obtain ⟨va1, va2, va3, rfl⟩ := hcs.slice
  obtain ⟨ve1, ve2, ve3, rfl⟩ := hce.slice
  obtain ⟨vp1, vp3, rfl, ⟨hplen, hplenC⟩, hprest⟩ := hps
  unfold maxLen at hplen
  have HREST := veil hprest
  have HC := veil hcs
  have HE := veil hce
  clear hcs hce hprest
  have HT : Hid (fuFault x = if identOk x.name = false ∨ noneOrIdent x.var = false then 4 else if 8 < x.params.length then 1 else
    if firstBad fdFault x.params ≠ 0 then firstBad fdFault x.params else if tyFault x.result 1 ≠ 0 then tyFault x.result 1 else exFault x.body 1) := rfl
  have HV : Hid (noneOrIdent x.var = ((x.var.toList == []) || identOk x.var)) := by show _ = _; rw [noneB_text]; rfl
  have HB : Hid (Below w.heap.size w (w.alloc (.cells #[.string x.name, .string x.var, .slice vp1 x.params.length vp3, .int .i64 k, .string f, .string n, .slice va1 va2 va3, .int .i64 k', .int .i64 n', .string f', .string s', .slice ve1 ve2 ve3] 89))) := (Below.refl _ _).alloc (Nat.le_refl _) _
  cases h : identOk x.name
  · rw [if_pos (Or.inl h)] at HT
    go_enter Tryz.func147, Tryz.ntmps147
    go_wp2_with fail
    refine (nameMay_any x.name hsz _).mono ?_
    rintro e w1 ⟨rfl, rfl⟩
    rw [h]
    go_wp2_with fail
    go_ret
    exact ⟨by rw [HT.out]; rfl, HB.out⟩
  have hvar : ((x.var.toList == []) = false ∧ identOk x.var = false) ∨ (noneOrIdent x.var = true ∧ ((x.var.toList == []) = true ∨ ((x.var.toList == []) = false ∧ identOk x.var = true))) := by
    rw [HV.out]
    cases (x.var.toList == []) <;> cases identOk x.var <;> simp
  rcases hvar with ⟨hv1, hv2⟩ | ⟨hv0, hvar⟩
  · rw [if_pos (Or.inr (HV.out.trans (by rw [hv1, hv2]; rfl)))] at HT
    go_enter Tryz.func147, Tryz.ntmps147
    go_wp2_with fail
    refine (nameMay_any x.name hsz _).mono ?_
    rintro e w1 ⟨rfl, rfl⟩
    rw [h]
    go_wp2_with fail
    refine (nameMay_any x.var hsz1 _).mono ?_
    rintro e w1 ⟨rfl, rfl⟩
    rw [hv2]
    go_wp2_with fail
    go_ret
    exact ⟨by rw [HT.out]; rfl, HB.out⟩
  rw [if_neg (by rw [h, hv0]; simp)] at HT
  clear HV hv0
  by_cases h8 : 8 < x.params.length
  · rw [if_pos h8] at HT
    have h8' : (8 : Int) < (x.params.length : Int) := by omega
    rcases hvar with hv | ⟨hv1, hv2⟩
    all_goals
      go_enter Tryz.func147, Tryz.ntmps147
      go_wp2_with fail
      refine (nameMay_any x.name hsz _).mono ?_
      rintro e w1 ⟨rfl, rfl⟩
      rw [h]
      go_wp2_with (go_at_call 88; refine (nameMay_any _ hsz1 _).mono ?_; rintro e w' ⟨rfl, rfl⟩)
      go_ret
      exact ⟨by rw [HT.out]; rfl, HB.out⟩
  have h8' : ¬ (8 : Int) < (x.params.length : Int) := by omega
  rw [if_neg h8] at HT
  clear h8
  rcases hvar with hv | ⟨hv1, hv2⟩
  all_goals
    go_enter Tryz.func147, Tryz.ntmps147
    go_wp2_with fail
    refine (nameMay_any x.name hsz _).mono ?_
    rintro e w1 ⟨rfl, rfl⟩
    rw [h]
    go_wp2_with (go_at_call 88; refine (nameMay_any _ hsz1 _).mono ?_; rintro e w' ⟨rfl, rfl⟩)
    go_loopw [3] (fun i wr => ∃ j : Nat, j ≤ x.params.length ∧ i = .int .i64 j ∧ (∀ q (hq : q < x.params.length), q < j → fdFault x.params[q] = 0) ∧ Below (w.heap.size + 1) (w.alloc (.cells #[.string x.name, .string x.var, .slice vp1 x.params.length vp3, .int .i64 k, .string f, .string n, .slice va1 va2 va3, .int .i64 k', .int .i64 n', .string f', .string s', .slice ve1 ve2 ve3] 89)) wr) (fun i _ => x.params.length - (intOf i).toNat)
    case atStart => exact ⟨0, Nat.zero_le _, rfl, fun q _ h => absurd h (by omega), Below.refl _ _⟩
    case round =>
      obtain ⟨j, hj, rfl, hall, hbl⟩ := hrel
      have HA := veil hall
      clear hall
      have hc := fun o => hbl.cell (p := ⟨w.heap.size, o, none⟩) (by show w.heap.size < w.heap.size + 1; omega)
      have hbs : w.heap.size + 1 ≤ wr.heap.size := by have := hbl.size; simpa using this
      have HL := veil (HB.out.trans (hbl.mono (by omega)))
      have HBL := veil hbl
      clear hbl
      by_cases hlt : j < x.params.length
      · rcases HREST.out with h0 | ⟨b, off, rfl, hb, hrow⟩
        · omega
        have hbw := hS b hb
        obtain ⟨⟨c0, hfs⟩, hty⟩ := hrow.get j hlt
        obtain ⟨kd, fo, na, va, c1, c2, c3, c4, hcs⟩ := tyAt_cells.1 hty
        obtain ⟨vb1, vb2, vb3, rfl⟩ := hcs.slice
        rw [Nat.add_assoc] at c2 c3 c4
        have d0 := (HL.out.cell (p := ⟨b, off + j * 5, none⟩) hbw).trans c0
        have d1 := (HL.out.cell (p := ⟨b, off + j * 5 + 1, none⟩) hbw).trans c1
        have d2 := (HL.out.cell (p := ⟨b, off + j * 5 + 2, none⟩) hbw).trans c2
        have d3 := (HL.out.cell (p := ⟨b, off + j * 5 + 3, none⟩) hbw).trans c3
        have d4 := (HL.out.cell (p := ⟨b, off + j * 5 + 4, none⟩) hbw).trans c4
        have cI := typeFault_any 10 1 (by omega) S x.params[j].is (.agg #[.int .i64 kd, .string fo, .string na, .slice vb1 vb2 vb3]) wr (by omega) (fun b h => by have := hS b h; omega) ⟨_, _, _, _, rfl, hcs.keep (Keeps.below HL.out hS)⟩
        have HFd : Hid (fdFault x.params[j] = if identOk x.params[j].name = true then tyFault x.params[j].is 1 else 4) := rfl
        have HAt := veil (fun h0 => firstBad_at fdFault x.params j hlt (fun q hq => HA.out q (by omega) hq) h0)
        have HNx : Hid (fdFault x.params[j] = 0 → ∀ q (hq : q < x.params.length), q < j + 1 → fdFault x.params[q] = 0) := fun hz q hq hqj => by
          by_cases e : q = j
          · subst e; exact hz
          · exact HA.out q hq (by omega)
        clear c0 c1 c2 c3 c4 hcs hrow HREST hty HA
        have e1 : ((1 : Nat) : Int) = 1 := rfl
        rw [e1] at cI
        generalize x.params[j] = pj at *
        cases hi : identOk pj.name
        · rw [if_neg (by rw [hi]; simp)] at HFd
          have HFF := veil (HAt.out (by rw [HFd.out]; decide))
          rw [HFF.out, HFd.out, if_pos (by decide)] at HT
          clear cI HAt HNx HFF
          go_wp2_with fail
          refine (nameMay_any pj.name hfs _).mono ?_
          rintro e w' ⟨rfl, rfl⟩
          rw [hi]
          go_wp2_with fail
          go_ret
          exact ⟨by rw [HT.out]; rfl, HL.out⟩
        rw [if_pos hi] at HFd
        by_cases hz : tyFault pj.is 1 = 0
        · have hz' : (tyFault pj.is 1 != 0) = false := by rw [hz]; rfl
          have HN := veil (HNx.out (HFd.out.trans hz))
          clear HAt HNx hz
          go_wp2_with fail
          refine (nameMay_any pj.name hfs _).mono ?_
          rintro e w' ⟨rfl, rfl⟩
          rw [hi]
          go_wp2_with fail
          refine cI.mono ?_
          rintro e w' ⟨rfl, hb'⟩
          go_wp2_with fail
          exact ⟨⟨j + 1, by omega, by go_num, HN.out, HBL.out.trans (hb'.mono hbs)⟩, by simp [intOf]; omega⟩
        · have hz' : (tyFault pj.is 1 != 0) = true := bne_iff_ne.2 hz
          have HFF := veil (HAt.out (by rw [HFd.out]; exact hz))
          rw [HFF.out, HFd.out, if_pos hz] at HT
          clear HAt HNx hz HFF
          go_wp2_with fail
          refine (nameMay_any pj.name hfs _).mono ?_
          rintro e w' ⟨rfl, rfl⟩
          rw [hi]
          go_wp2_with fail
          refine cI.mono ?_
          rintro e w' ⟨rfl, hb'⟩
          go_wp2_with fail
          go_ret
          exact ⟨by rw [HT.out]; rfl, HL.out.trans (hb'.mono (by omega))⟩
      · have HFF := veil (firstBad_none fdFault x.params fun q hq => HA.out q hq (by omega))
        rw [HFF.out, if_neg (by simp)] at HT
        clear HREST HFF HA
        have e1 : ((1 : Nat) : Int) = 1 := rfl
        have cT := typeFault_any 10 1 (by omega) S x.result (.agg #[.int .i64 k, .string f, .string n, .slice va1 va2 va3]) wr (by omega) (fun b h => by have := hS b h; omega) ⟨_, _, _, _, rfl, HC.out.keep (Keeps.below HL.out hS)⟩
        rw [e1] at cT
        by_cases hz : tyFault x.result 1 = 0
        · have hz' : (tyFault x.result 1 == 0) = true := by rw [hz]; rfl
          rw [if_neg (by rw [hz]; simp)] at HT
          clear hz
          go_wp2_with fail
          refine cT.mono ?_
          rintro e w2 ⟨rfl, hb2⟩
          have hc2 := fun o => (hb2.cell (p := ⟨w.heap.size, o, none⟩) (by show w.heap.size < wr.heap.size; omega)).trans (hc o)
          have HL2 := veil (HL.out.trans (hb2.mono (by omega)))
          clear hb2 hc
          have cE := exprFault_any 10 1 (by omega) (by omega) S x.body (.agg #[.int .i64 k', .int .i64 n', .string f', .string s', .slice ve1 ve2 ve3]) w2 (fdIs_first hS HL2.out) ⟨_, _, _, _, _, rfl, HE.out.keep (Keeps.below HL2.out hS)⟩
          rw [e1] at cE
          go_wp2_with fail
          refine cE.mono ?_
          rintro e w3 ⟨rfl, hb3⟩
          go_wp2_with fail
          go_ret
          exact ⟨by rw [HT.out]; rfl, HL2.out.trans (hb3.mono HL2.out.size)⟩
        · have hz' : (tyFault x.result 1 == 0) = false := beq_eq_false_iff_ne.2 hz
          rw [if_pos hz] at HT
          clear hz
          go_wp2_with fail
          refine cT.mono ?_
          rintro e w2 ⟨rfl, hb2⟩
          go_wp2_with fail
          go_ret
          exact ⟨by rw [HT.out]; rfl, HL.out.trans (hb2.mono (by omega))⟩

set_option maxHeartbeats 8000000 in
set_option maxRecDepth 100000 in
theorem moduleFault_any (S : Nat → Prop) (x : Mo) (v : Value) (w : World) (hS : ∀ b, S b → b < w.heap.size) (hx : MoIs S w x v) :
    Calls Tryz.prog 76 #[v] w fun e w' => e = .returned (.int .i64 (moFault x)) ∧ Below w.heap.size w w' := by
  obtain ⟨vu, vt, vf, rfl, hu, ht, hf⟩ := hx
  obtain ⟨u1, u3, rfl, ⟨hul, hulC⟩, hur⟩ := hu
  obtain ⟨t1, t3, rfl, ⟨htl, htlC⟩, htr⟩ := ht
  obtain ⟨f1, f3, rfl, ⟨hfl, hflC⟩, hfr⟩ := hf
  have HR3 := veil hur
  have HR4 := veil htr
  have HR6 := veil hfr
  clear hur htr hfr
  have HT : Hid (moFault x = if 24 < wrap64 (wrap64 ((x.uses.length : Int) + x.types.length) + x.funcs.length) then 1 else
    if firstBad useFault x.uses ≠ 0 then firstBad useFault x.uses else if firstBad fdFault x.types ≠ 0 then firstBad fdFault x.types else firstBad fuFault x.funcs) := rfl
  have HB : Hid (Below w.heap.size w (w.alloc (.cells #[.slice u1 x.uses.length u3, .slice t1 x.types.length t3, .slice f1 x.funcs.length f3] 44))) := (Below.refl _ _).alloc (Nat.le_refl _) _
  by_cases h24 : 24 < wrap64 (wrap64 ((x.uses.length : Int) + x.types.length) + x.funcs.length)
  · rw [if_pos h24] at HT
    clear hul htl hfl
    go_enter Tryz.func76, Tryz.ntmps76
    go_wp2_with fail
    go_ret
    exact ⟨by rw [HT.out]; rfl, HB.out⟩
  rw [if_neg h24] at HT
  have HUL := veil hul
  have HTL := veil htl
  have HFL := veil hfl
  clear hul htl hfl
  go_enter Tryz.func76, Tryz.ntmps76
  go_wp2_with fail
  have hul := HUL.out
  have htl := HTL.out
  have hfl := HFL.out
  unfold maxLen at hul htl hfl
  go_loopw [3] (fun i wr => ∃ j : Nat, j ≤ x.uses.length ∧ i = .int .i64 j ∧ (∀ q (hq : q < x.uses.length), q < j → useFault x.uses[q] = 0) ∧ Below (w.heap.size + 1) (w.alloc (.cells #[.slice u1 x.uses.length u3, .slice t1 x.types.length t3, .slice f1 x.funcs.length f3] 44)) wr) (fun i _ => x.uses.length - (intOf i).toNat)
  case atStart => exact ⟨0, Nat.zero_le _, rfl, fun q _ h => absurd h (by omega), Below.refl _ _⟩
  case round =>
    obtain ⟨j, hj, rfl, hall, hbl⟩ := hrel
    have HA := veil hall
    clear hall
    have hc := fun o => hbl.cell (p := ⟨w.heap.size, o, none⟩) (by show w.heap.size < w.heap.size + 1; omega)
    have hbs : w.heap.size + 1 ≤ wr.heap.size := by have := hbl.size; simpa using this
    have HL := veil (HB.out.trans (hbl.mono (by omega)))
    have HBL := veil hbl
    clear hbl
    by_cases hlt : j < x.uses.length
    · rcases HR3.out with h0 | ⟨b, off, rfl, hb, hrow⟩
      · omega
      have hbw := hS b hb
      have HAt := veil (fun h0 => firstBad_at useFault x.uses j hlt (fun q hq => HA.out q (by omega) hq) h0)
      have HNx : Hid (useFault x.uses[j] = 0 → ∀ q (hq : q < x.uses.length), q < j + 1 → useFault x.uses[q] = 0) := fun hz q hq hqj => by
        by_cases e : q = j
        · subst e; exact hz
        · exact HA.out q hq (by omega)
      obtain ⟨c0, hfs⟩ := hrow.get j hlt
      rw [Nat.mul_one] at c0
      have d0 := (HL.out.cell (p := ⟨b, off + j, none⟩) hbw).trans c0
      have HFd : Hid (useFault x.uses[j] = if identOk x.uses[j] = true then 0 else 4) := rfl
      clear c0 hrow HA
      generalize x.uses[j] = pj at *
      cases hi : identOk pj
      · rw [if_neg (by rw [hi]; simp)] at HFd
        have HFF := veil (HAt.out (by rw [HFd.out]; decide))
        rw [HFF.out, HFd.out, if_pos (by decide)] at HT
        clear HAt HNx HFF
        go_wp2_with fail
        refine (nameMay_any pj hfs _).mono ?_
        rintro e w' ⟨rfl, rfl⟩
        rw [hi]
        go_wp2_with fail
        go_ret
        exact ⟨by rw [HT.out]; rfl, HL.out⟩
      · rw [if_pos hi] at HFd
        have HN := veil (HNx.out HFd.out)
        clear HAt HNx
        go_wp2_with fail
        refine (nameMay_any pj hfs _).mono ?_
        rintro e w' ⟨rfl, rfl⟩
        rw [hi]
        go_wp2_with fail
        exact ⟨⟨j + 1, by omega, by go_num, HN.out, HBL.out⟩, by simp [intOf]; omega⟩
    · have HFF := veil (firstBad_none useFault x.uses fun q hq => HA.out q hq (by omega))
      rw [HFF.out, if_neg (by simp)] at HT
      clear HFF HA HR3
      go_wp2_with fail
      go_loopw [4] (fun i wr => ∃ j : Nat, j ≤ x.types.length ∧ i = .int .i64 j ∧ (∀ q (hq : q < x.types.length), q < j → fdFault x.types[q] = 0) ∧ Below (w.heap.size + 1) (w.alloc (.cells #[.slice u1 x.uses.length u3, .slice t1 x.types.length t3, .slice f1 x.funcs.length f3] 44)) wr) (fun i _ => x.types.length - (intOf i).toNat)
      case atStart => exact ⟨0, Nat.zero_le _, rfl, fun q _ h => absurd h (by omega), HBL.out⟩
      case round =>
        clear hc hbs hlt HL
        obtain ⟨j, hj, rfl, hall, hbl⟩ := hrel
        have HA := veil hall
        clear hall
        have hc := fun o => hbl.cell (p := ⟨w.heap.size, o, none⟩) (by show w.heap.size < w.heap.size + 1; omega)
        have hbs : w.heap.size + 1 ≤ wr.heap.size := by have := hbl.size; simpa using this
        have HL := veil (HB.out.trans (hbl.mono (by omega)))
        have HBL := veil hbl
        clear hbl
        by_cases hlt : j < x.types.length
        · rcases HR4.out with h0 | ⟨b, off, rfl, hb, hrow⟩
          · omega
          have hbw := hS b hb
          have HAt := veil (fun h0 => firstBad_at fdFault x.types j hlt (fun q hq => HA.out q (by omega) hq) h0)
          have HNx : Hid (fdFault x.types[j] = 0 → ∀ q (hq : q < x.types.length), q < j + 1 → fdFault x.types[q] = 0) := fun hz q hq hqj => by
            by_cases e : q = j
            · subst e; exact hz
            · exact HA.out q hq (by omega)
          obtain ⟨⟨c0, hfs⟩, hty⟩ := hrow.get j hlt
          obtain ⟨kd, fo, na, va, c1, c2, c3, c4, hcs⟩ := tyAt_cells.1 hty
          obtain ⟨vb1, vb2, vb3, rfl⟩ := hcs.slice
          rw [Nat.add_assoc] at c2 c3 c4
          have d0 := (HL.out.cell (p := ⟨b, off + j * 5, none⟩) hbw).trans c0
          have d1 := (HL.out.cell (p := ⟨b, off + j * 5 + 1, none⟩) hbw).trans c1
          have d2 := (HL.out.cell (p := ⟨b, off + j * 5 + 2, none⟩) hbw).trans c2
          have d3 := (HL.out.cell (p := ⟨b, off + j * 5 + 3, none⟩) hbw).trans c3
          have d4 := (HL.out.cell (p := ⟨b, off + j * 5 + 4, none⟩) hbw).trans c4
          have cI := typeFault_any 10 1 (by omega) S x.types[j].is (.agg #[.int .i64 kd, .string fo, .string na, .slice vb1 vb2 vb3]) wr (by omega) (fun b h => by have := hS b h; omega) ⟨_, _, _, _, rfl, hcs.keep (Keeps.below HL.out hS)⟩
          have HFd : Hid (fdFault x.types[j] = if identOk x.types[j].name = true then tyFault x.types[j].is 1 else 4) := rfl
          clear c0 c1 c2 c3 c4 hcs hrow hty HA
          have e1 : ((1 : Nat) : Int) = 1 := rfl
          rw [e1] at cI
          generalize x.types[j] = pj at *
          cases hi : identOk pj.name
          · rw [if_neg (by rw [hi]; simp)] at HFd
            have HFF := veil (HAt.out (by rw [HFd.out]; decide))
            rw [HFF.out, HFd.out, if_pos (by decide)] at HT
            clear cI HAt HNx HFF
            go_wp2_with fail
            refine (nameMay_any pj.name hfs _).mono ?_
            rintro e w' ⟨rfl, rfl⟩
            rw [hi]
            go_wp2_with fail
            go_ret
            exact ⟨by rw [HT.out]; rfl, HL.out⟩
          rw [if_pos hi] at HFd
          by_cases hz : tyFault pj.is 1 = 0
          · have hz' : (tyFault pj.is 1 != 0) = false := by rw [hz]; rfl
            have HN := veil (HNx.out (HFd.out.trans hz))
            clear HAt HNx hz
            go_wp2_with fail
            refine (nameMay_any pj.name hfs _).mono ?_
            rintro e w' ⟨rfl, rfl⟩
            rw [hi]
            go_wp2_with fail
            refine cI.mono ?_
            rintro e w' ⟨rfl, hb'⟩
            go_wp2_with fail
            exact ⟨⟨j + 1, by omega, by go_num, HN.out, HBL.out.trans (hb'.mono hbs)⟩, by simp [intOf]; omega⟩
          · have hz' : (tyFault pj.is 1 != 0) = true := bne_iff_ne.2 hz
            have HFF := veil (HAt.out (by rw [HFd.out]; exact hz))
            rw [HFF.out, HFd.out, if_pos hz] at HT
            clear HAt HNx hz HFF
            go_wp2_with fail
            refine (nameMay_any pj.name hfs _).mono ?_
            rintro e w' ⟨rfl, rfl⟩
            rw [hi]
            go_wp2_with fail
            refine cI.mono ?_
            rintro e w' ⟨rfl, hb'⟩
            go_wp2_with fail
            go_ret
            exact ⟨by rw [HT.out]; rfl, HL.out.trans (hb'.mono (by omega))⟩
        · have HFF := veil (firstBad_none fdFault x.types fun q hq => HA.out q hq (by omega))
          rw [HFF.out, if_neg (by simp)] at HT
          clear HFF HA HR4
          go_wp2_with fail
          go_loopw [6] (fun i wr => ∃ j : Nat, j ≤ x.funcs.length ∧ i = .int .i64 j ∧ (∀ q (hq : q < x.funcs.length), q < j → fuFault x.funcs[q] = 0) ∧ Below (w.heap.size + 1) (w.alloc (.cells #[.slice u1 x.uses.length u3, .slice t1 x.types.length t3, .slice f1 x.funcs.length f3] 44)) wr) (fun i _ => x.funcs.length - (intOf i).toNat)
          case atStart => exact ⟨0, Nat.zero_le _, rfl, fun q _ h => absurd h (by omega), HBL.out⟩
          case round =>
            clear hc hbs hlt HL
            obtain ⟨j, hj, rfl, hall, hbl⟩ := hrel
            have HA := veil hall
            clear hall
            have hc := fun o => hbl.cell (p := ⟨w.heap.size, o, none⟩) (by show w.heap.size < w.heap.size + 1; omega)
            have hbs : w.heap.size + 1 ≤ wr.heap.size := by have := hbl.size; simpa using this
            have HL := veil (HB.out.trans (hbl.mono (by omega)))
            have HBL := veil hbl
            clear hbl
            by_cases hlt : j < x.funcs.length
            · rcases HR6.out with h0 | ⟨b, off, rfl, hb, hrow⟩
              · omega
              have hbw := hS b hb
              have HAt := veil (fun h0 => firstBad_at fuFault x.funcs j hlt (fun q hq => HA.out q (by omega) hq) h0)
              have HNx : Hid (fuFault x.funcs[j] = 0 → ∀ q (hq : q < x.funcs.length), q < j + 1 → fuFault x.funcs[q] = 0) := fun hz q hq hqj => by
                by_cases e : q = j
                · subst e; exact hz
                · exact HA.out q hq (by omega)
              obtain ⟨⟨c0, hsz⟩, ⟨c1, hsz1⟩, ⟨vp, c2, hps⟩, hty, hex⟩ := hrow.get j hlt
              obtain ⟨kd, fo, na, va, c3, c4, c5, c6, hcs⟩ := tyAt_cells.1 hty
              obtain ⟨ke, ne, fe, se, ve, c7, c8, c9, c10, c11, hce⟩ := exAt_cells.1 hex
              obtain ⟨va1, va2, va3, rfl⟩ := hcs.slice
              obtain ⟨vp1, vp2, vp3, rfl⟩ := hps.slice
              obtain ⟨ve1, ve2, ve3, rfl⟩ := hce.slice
              rw [Nat.add_assoc] at c4 c5 c6 c8 c9 c10 c11
              have d0 := (HL.out.cell (p := ⟨b, off + j * 12, none⟩) hbw).trans c0
              have d1 := (HL.out.cell (p := ⟨b, off + j * 12 + 1, none⟩) hbw).trans c1
              have d2 := (HL.out.cell (p := ⟨b, off + j * 12 + 2, none⟩) hbw).trans c2
              have d3 := (HL.out.cell (p := ⟨b, off + j * 12 + 3, none⟩) hbw).trans c3
              have d4 := (HL.out.cell (p := ⟨b, off + j * 12 + 4, none⟩) hbw).trans c4
              have d5 := (HL.out.cell (p := ⟨b, off + j * 12 + 5, none⟩) hbw).trans c5
              have d6 := (HL.out.cell (p := ⟨b, off + j * 12 + 6, none⟩) hbw).trans c6
              have d7 := (HL.out.cell (p := ⟨b, off + j * 12 + 7, none⟩) hbw).trans c7
              have d8 := (HL.out.cell (p := ⟨b, off + j * 12 + 8, none⟩) hbw).trans c8
              have d9 := (HL.out.cell (p := ⟨b, off + j * 12 + 9, none⟩) hbw).trans c9
              have d10 := (HL.out.cell (p := ⟨b, off + j * 12 + 10, none⟩) hbw).trans c10
              have d11 := (HL.out.cell (p := ⟨b, off + j * 12 + 11, none⟩) hbw).trans c11
              have hkp : Keeps S S w wr := Keeps.below HL.out hS
              have cI := funcFault_any S x.funcs[j] (.agg #[.string x.funcs[j].name, .string x.funcs[j].var, .slice vp1 vp2 vp3, .int .i64 kd, .string fo, .string na, .slice va1 va2 va3, .int .i64 ke, .int .i64 ne, .string fe, .string se, .slice ve1 ve2 ve3]) wr (fun b h => by have := hS b h; omega) ⟨_, _, _, _, _, _, _, _, _, _, rfl, hsz, hsz1, fdSl_keep hkp hps, hcs.keep hkp, hce.keep hkp⟩
              clear c0 c1 c2 c3 c4 c5 c6 c7 c8 c9 c10 c11 hcs hrow hty hex hce hps HA hkp
              generalize x.funcs[j] = pj at *
              by_cases hz : fuFault pj = 0
              · have hz' : (fuFault pj != 0) = false := by rw [hz]; rfl
                have HN := veil (HNx.out hz)
                clear HAt HNx hz
                go_wp2_with fail
                refine cI.mono ?_
                rintro e w' ⟨rfl, hb'⟩
                go_wp2_with fail
                exact ⟨⟨j + 1, by omega, by go_num, HN.out, HBL.out.trans (hb'.mono hbs)⟩, by simp [intOf]; omega⟩
              · have hz' : (fuFault pj != 0) = true := bne_iff_ne.2 hz
                have HFF := veil (HAt.out hz)
                rw [HFF.out] at HT
                clear HAt HNx hz HFF
                go_wp2_with fail
                refine cI.mono ?_
                rintro e w' ⟨rfl, hb'⟩
                go_wp2_with fail
                go_ret
                exact ⟨by rw [HT.out]; rfl, HL.out.trans (hb'.mono (by omega))⟩
            · have HFF := veil (firstBad_none fuFault x.funcs fun q hq => HA.out q hq (by omega))
              rw [HFF.out] at HT
              clear HFF HA HR6
              go_wp2_with fail
              go_ret
              exact ⟨by rw [HT.out]; rfl, HL.out⟩

end Go.Proofs.YtagbaimfigljiaaGreatDoor
namespace Go.Proofs.YtagbaimfigljiaaGreatDoor
open Go.RowKit
set_option maxRecDepth 100000

end Go.Proofs.YtagbaimfigljiaaGreatDoor
namespace Go.Proofs.YtagbaimfigljiaaGreatDoor
open Go.RowKit
set_option maxRecDepth 100000

structure Dg where
  wh : ByteArray
  code : Int
end Go.Proofs.YtagbaimfigljiaaGreatDoor
namespace Go.Proofs.YtagbaimfigljiaaGreatDoor
open Go.RowKit
set_option maxRecDepth 100000

end Go.Proofs.YtagbaimfigljiaaGreatDoor
namespace Go.Proofs.YtagbaimfigljiaaGreatDoor
open Go.RowKit
set_option maxRecDepth 100000

instance : Inhabited Ty := ⟨.mk 0 .empty .empty []⟩
instance : Inhabited Ex := ⟨.mk 0 0 .empty .empty []⟩
instance : Inhabited Fd := ⟨⟨.empty, default⟩⟩
instance : Inhabited Fu := ⟨⟨.empty, .empty, [], default, default⟩⟩

section
variable {H : Type} {enc : TypeId × Value → H} {W : World} {base : Nat} {spare : Nat → Bool} {held : Bool}

/-- none of its lists is longer than what the form allows. -/
def moSmall (m : Mo) : Prop := m.uses.length ≤ reachBytes ∧ m.types.length ≤ reachBytes ∧ m.funcs.length ≤ reachBytes

end

end Go.Proofs.YtagbaimfigljiaaGreatDoor
namespace Go.Proofs.YtagbaimfigljiaaGreatDoor
open Go.RowKit
set_option maxRecDepth 100000

theorem ident_eight {s : ByteArray} (h : identOk s = true) : s.size ≤ 8 := by
  unfold identOk wordOk at h
  simp only [Bool.and_eq_true] at h
  have := h.1.1
  simp [isIn] at this
  omega
theorem mo_counts {m : Mo} (h : moFault m = 0) (hz : moSmall m) : m.uses.length + m.types.length + m.funcs.length ≤ 24 := by
  have hr := reachBytes_lt
  obtain ⟨z1, z2, z3⟩ := hz
  unfold moFault at h
  by_cases hc : 24 < wrap64 (wrap64 ((m.uses.length : Int) + m.types.length) + m.funcs.length)
  · rw [if_pos hc] at h; exact absurd h (by decide)
  · unfold wrap64 at hc
    omega
theorem mo_uses {m : Mo} (h : moFault m = 0) : ∀ s ∈ m.uses, identOk s = true := by
  unfold moFault at h
  by_cases hc : 24 < wrap64 (wrap64 ((m.uses.length : Int) + m.types.length) + m.funcs.length)
  · rw [if_pos hc] at h; exact absurd h (by decide)
  · rw [if_neg hc] at h
    by_cases hu : firstBad useFault m.uses ≠ 0
    · rw [if_pos hu] at h; exact absurd h hu
    · intro s hs
      obtain ⟨k, hk, rfl⟩ := List.getElem_of_mem hs
      have := firstBad_all useFault m.uses (by omega) k hk
      unfold useFault at this
      by_cases hi : identOk m.uses[k] = true
      · exact hi
      · rw [if_neg hi] at this; exact absurd this (by decide)
end Go.Proofs.YtagbaimfigljiaaGreatDoor
namespace Go.Proofs.YtagbaimfigljiaaGreatDoor
open Go.RowKit
set_option maxRecDepth 100000

/-- what UsesOf's regions keep. -/
def UseS (B b o : Nat) (p q r : Value) (s : ByteArray) (wr W : World) : Prop :=
  Below wr.heap.size wr W ∧ W.cell? ⟨B, 0, none⟩ = some p ∧ W.cell? ⟨B, 1, none⟩ = some q ∧ W.cell? ⟨B, 2, none⟩ = some r ∧ W.cell? ⟨b, o, none⟩ = some (.string s)
theorem UseS.below {B b o : Nat} {p q r : Value} {s : ByteArray} {wr W : World} (h : UseS B b o p q r s wr W) : Below wr.heap.size wr W := h.1
theorem UseS.later {B b o : Nat} {p q r : Value} {s : ByteArray} {wr W W' : World} (h : UseS B b o p q r s wr W) (hb : Below W.heap.size W W') : UseS B b o p q r s wr W' := by
  obtain ⟨h0, h1, h2, h3, h4⟩ := h
  exact ⟨h0.trans (hb.mono h0.size), (hb.cell (World.block_lt_of_cell? _ _ h1)).trans h1, (hb.cell (World.block_lt_of_cell? _ _ h2)).trans h2, (hb.cell (World.block_lt_of_cell? _ _ h3)).trans h3, (hb.cell (World.block_lt_of_cell? _ _ h4)).trans h4⟩

theorem UseS.box {B b o : Nat} {p q r : Value} {s : ByteArray} {wr W : World} {x : Obj} (h : UseS B b o p q r s wr W) : UseS B b o p q r s wr (W.alloc x) := h.later ((Below.refl _ _).alloc (Nat.le_refl _) _)
theorem UseS.swap {B b o : Nat} {p q r : Value} {s : ByteArray} {wr W : World} {x y : Obj} (h : UseS B b o p q r s wr (W.alloc x)) (hl : wr.heap.size ≤ W.heap.size) (hB : B < wr.heap.size) (hb : b < wr.heap.size) : UseS B b o p q r s wr (W.alloc y) := by
  obtain ⟨h0, h1, h2, h3, h4⟩ := h
  have e : ∀ c, c < wr.heap.size → (W.alloc y).heap[c]? = (W.alloc x).heap[c]? := fun c hc => by
    rw [heap_alloc_old _ _ (by omega), heap_alloc_old _ _ (by omega)]
  refine ⟨⟨h0.os, h0.tape, h0.output, by simp; omega, fun c hc => (e c hc).trans (h0.block c hc)⟩, ?_, ?_, ?_, ?_⟩
  · rw [World.cell?_of_block (e B hB)]; exact h1
  · rw [World.cell?_of_block (e B hB)]; exact h2
  · rw [World.cell?_of_block (e B hB)]; exact h3
  · rw [World.cell?_of_block (e b hb)]; exact h4

end Go.Proofs.YtagbaimfigljiaaGreatDoor
namespace Go.Proofs.YtagbaimfigljiaaGreatDoor
open Go.RowKit
set_option maxRecDepth 100000

end Go.Proofs.YtagbaimfigljiaaGreatDoor
namespace Go.Proofs.YtagbaimfigljiaaGreatDoor
open Go.RowKit
set_option maxRecDepth 100000

def ownAt (m : Mo) (s : ByteArray) : Nat := findAt (fun f : Fd => sEq f.name s) m.types

end Go.Proofs.YtagbaimfigljiaaGreatDoor
namespace Go.Proofs.YtagbaimfigljiaaGreatDoor
open Go.RowKit
set_option maxRecDepth 100000

/-! ### A name's place tells the name -/

theorem find_at {α : Type} {p : α → Bool} : ∀ {l : List α} (h : findAt p l < l.length), p l[findAt p l] = true
  | [], h => by simp [findAt] at h
  | x :: r, h => by
    by_cases hp : p x = true
    · have e : findAt p (x :: r) = 0 := by rw [findAt, if_pos hp]
      simp only [e, List.getElem_cons_zero]
      exact hp
    · have e : findAt p (x :: r) = findAt p r + 1 := by rw [findAt, if_neg hp]
      have h' : findAt p r < r.length := by rw [e] at h; simpa using h
      simp only [e, List.getElem_cons_succ]
      exact find_at h'

theorem own_name {m : Mo} {n : ByteArray} (h : ownAt m n < m.types.length) : m.types[ownAt m n].name = n := sEq_eq (find_at h)

theorem own_inj {m : Mo} {n n' : ByteArray} (h : ownAt m n < m.types.length) (e : ownAt m n = ownAt m n') : n = n' := by
  have h1 := own_name h
  have h' : ownAt m n' < m.types.length := by rw [← e]; exact h
  have h2 := own_name h'
  rw [← h1, ← h2]
  congr 2

theorem hasS_mem {l : List ByteArray} {s : ByteArray} : hasS l s = true ↔ s ∈ l := by
  unfold hasS
  rw [decide_eq_true_iff]
  constructor
  · intro h
    have := find_at h
    rw [← sEq_eq this]
    exact List.getElem_mem h
  · intro h
    induction l with
    | nil => cases h
    | cons x r ih =>
      by_cases hx : sEq x s = true
      · rw [findAt, if_pos hx]; simp
      · rw [findAt, if_neg hx]
        rcases List.mem_cons.1 h with rfl | h
        · exact absurd (sEq_refl s) hx
        · have := ih h
          simp; exact this

/-- the places of the names. -/
def Meets (m : Mo) (under : List ByteArray) (met : List Nat) : Prop := ∀ n, ownAt m n < m.types.length → (met.contains (ownAt m n) = hasS under n)

theorem Meets.start (m : Mo) : Meets m [] [] := fun n _ => by simp [hasS, findAt]
theorem Meets.next {m : Mo} {under : List ByteArray} {met : List Nat} (h : Meets m under met) {n : ByteArray} (hn : ownAt m n < m.types.length) : Meets m (under ++ [n]) (ownAt m n :: met) := fun n' h' => by
  rw [Bool.eq_iff_iff, hasS_mem, List.mem_append, List.mem_singleton, ← hasS_mem, ← h n' h', List.contains_cons, Bool.or_eq_true, beq_iff_eq]
  constructor
  · rintro (e | e)
    · exact Or.inr (own_inj h' e)
    · exact Or.inl e
  · rintro (e | rfl)
    · exact Or.inr e
    · exact Or.inl rfl

end Go.Proofs.YtagbaimfigljiaaGreatDoor
namespace Go.Proofs.YtagbaimfigljiaaGreatDoor
open Go.RowKit
set_option maxRecDepth 100000

def fnd (mB lB tB fB : Nat) : Value := .func (.func 290) #[] #[.pointer (some ⟨mB, 0, none⟩), .pointer (some ⟨lB, 0, none⟩), .pointer (some ⟨tB, 0, none⟩), .pointer (some ⟨fB, 0, none⟩)]

/-- what the finder's closure holds: the module, the imports, which types were met, and itself. -/
structure SEnv (w0 : World) (mB lB tB fB aB : Nat) (x y z lv : Value) (n : Nat) (met : List Nat) (W : World) : Prop where
  below : Below w0.heap.size w0 W
  m0 : W.cell? ⟨mB, 0, none⟩ = some x
  m1 : W.cell? ⟨mB, 1, none⟩ = some y
  m2 : W.cell? ⟨mB, 2, none⟩ = some z
  lc : W.cell? ⟨lB, 0, none⟩ = some lv
  tc : W.cell? ⟨tB, 0, none⟩ = some (.slice (some ⟨aB, 0, none⟩) n n)
  fc : W.cell? ⟨fB, 0, none⟩ = some (fnd mB lB tB fB)
  arr : ∀ i, i < n → W.cell? ⟨aB, i, none⟩ = some (.bool (met.contains i)) ∧ W.frozen? ⟨aB, i, none⟩ = false
  low : w0.heap.size ≤ aB
  ne : aB ≠ mB ∧ aB ≠ lB ∧ aB ≠ tB ∧ aB ≠ fB

theorem SEnv.keep {w0 : World} {mB lB tB fB aB : Nat} {x y z lv : Value} {n : Nat} {met : List Nat} {W W' : World} (h : SEnv w0 mB lB tB fB aB x y z lv n met W) (hb : Below W.heap.size W W') : SEnv w0 mB lB tB fB aB x y z lv n met W' := by
  have hk : ∀ (a : Addr) (v : Value), W.cell? a = some v → W'.cell? a = some v := fun a v hv => (hb.cell (World.block_lt_of_cell? _ _ hv)).trans hv
  refine ⟨h.below.trans (hb.mono h.below.size), hk _ _ h.m0, hk _ _ h.m1, hk _ _ h.m2, hk _ _ h.lc, hk _ _ h.tc, hk _ _ h.fc, fun i hi => ?_, h.low, h.ne⟩
  obtain ⟨h1, h2⟩ := h.arr i hi
  exact ⟨hk _ _ h1, (hb.frozen (World.block_lt_of_cell? _ _ h1)).trans h2⟩

end Go.Proofs.YtagbaimfigljiaaGreatDoor
namespace Go.Proofs.YtagbaimfigljiaaGreatDoor
open Go.RowKit
set_option maxRecDepth 100000

end Go.Proofs.YtagbaimfigljiaaGreatDoor
namespace Go.Proofs.YtagbaimfigljiaaGreatDoor
open Go.RowKit
set_option maxRecDepth 100000

end Go.Proofs.YtagbaimfigljiaaGreatDoor
namespace Go.Proofs.YtagbaimfigljiaaGreatDoor
open Go.RowKit
set_option maxRecDepth 100000

end Go.Proofs.YtagbaimfigljiaaGreatDoor
namespace Go.Proofs.YtagbaimfigljiaaGreatDoor
open Go.RowKit
set_option maxRecDepth 100000

end Go.Proofs.YtagbaimfigljiaaGreatDoor
namespace Go.Proofs.YtagbaimfigljiaaGreatDoor
open Go.RowKit
set_option maxRecDepth 100000

end Go.Proofs.YtagbaimfigljiaaGreatDoor
namespace Go.Proofs.YtagbaimfigljiaaGreatDoor
open Go.RowKit
set_option maxRecDepth 100000

end Go.Proofs.YtagbaimfigljiaaGreatDoor
namespace Go.Proofs.YtagbaimfigljiaaGreatDoor
open Go.RowKit
set_option maxRecDepth 100000

end Go.Proofs.YtagbaimfigljiaaGreatDoor
namespace Go.Proofs.YtagbaimfigljiaaGreatDoor
open Go.RowKit
set_option maxRecDepth 100000

end Go.Proofs.YtagbaimfigljiaaGreatDoor
namespace Go.Proofs.YtagbaimfigljiaaGreatDoor
open Go.RowKit
set_option maxRecDepth 100000
open Go.Shelf (Ren)

/-! ### The order of texts, once more. -/

theorem less_asymm : ∀ {a b : List UInt8}, Op.bytesLess a b = true → Op.bytesLess b a = false
  | [], [], h => by simp [Op.bytesLess] at h
  | [], _ :: _, _ => by simp [Op.bytesLess]
  | _ :: _, [], h => by simp [Op.bytesLess] at h
  | x :: xs, y :: ys, h => by
    simp only [Op.bytesLess, Bool.or_eq_true, decide_eq_true_eq, Bool.and_eq_true, beq_iff_eq, Bool.or_eq_false_iff, decide_eq_false_iff_not, Bool.and_eq_false_iff, beq_eq_false_iff_ne] at *
    rcases h with h | ⟨rfl, h⟩
    · have := UInt8.lt_iff_toNat_lt.1 h
      refine ⟨fun h' => by have := UInt8.lt_iff_toNat_lt.1 h'; omega, Or.inl fun e => ?_⟩
      subst e; omega
    · refine ⟨fun h' => by have := UInt8.lt_iff_toNat_lt.1 h'; omega, Or.inr (less_asymm h)⟩

theorem less_irrefl (a : List UInt8) : Op.bytesLess a a = false := by
  cases h : Op.bytesLess a a with
  | false => rfl
  | true => rw [less_asymm h] at h; cases h

/-! ### One laid where it belongs. -/

section
variable {α : Type} (name : α → ByteArray)

def insB (x : α) : List α → List α
  | [] => [x]
  | y :: r => if gtB (name y) (name x) = true then x :: y :: r else y :: insB x r

def RisesB (l : List α) : Prop := l.Pairwise fun a b => gtB (name b) (name a) = true

theorem insB_perm (x : α) : ∀ l, (insB name x l).Perm (x :: l)
  | [] => List.Perm.refl _
  | y :: r => by
    rw [insB]
    split
    · exact List.Perm.refl _
    · exact ((insB_perm x r).cons y).trans (List.Perm.swap x y r)

theorem gt_or {a b : ByteArray} (h : ¬ gtB a b = true) (hn : sEq a b = false) : gtB b a = true := by
  unfold gtB sEq at *
  have hn' : (b.toList == a.toList) = false := by
    rw [beq_eq_false_iff_ne] at *
    exact fun e => hn e.symm
  rw [hn] at h
  simp only [Bool.not_false, Bool.and_true, Bool.not_eq_true', Bool.not_eq_false] at h
  rw [hn', less_asymm h]; rfl

theorem insB_rises {x : α} : ∀ {l : List α}, RisesB name l → (∀ y ∈ l, sEq (name y) (name x) = false) → RisesB name (insB name x l)
  | [], _, _ => List.pairwise_singleton _ _
  | y :: r, h, hn => by
    rw [insB]
    by_cases hg : gtB (name y) (name x) = true
    · rw [if_pos hg]
      refine List.Pairwise.cons (fun z hz => ?_) h
      rcases List.mem_cons.1 hz with rfl | hz
      · exact hg
      · exact gt_trans (List.rel_of_pairwise_cons h hz) hg
    · rw [if_neg hg]
      have hyx := gt_or hg (hn y (List.mem_cons_self ..))
      refine List.Pairwise.cons (fun z hz => ?_) (insB_rises h.tail (fun z hz => hn z (List.mem_cons_of_mem _ hz)))
      rcases List.mem_cons.1 ((insB_perm name x r).subset hz) with rfl | hz
      · exact hyx
      · exact List.rel_of_pairwise_cons h hz

theorem rises_one {l1 l2 : List α} (h1 : RisesB name l1) (h2 : RisesB name l2) (hp : l1.Perm l2) : l1 = l2 :=
  List.Perm.eq_of_pairwise (le := fun a b => gtB (name b) (name a) = true) (fun a b _ _ h h' => by
    have := gt_ne (gt_trans h h')
    rw [sEq_refl] at this; cases this) h1 h2 hp

end

end Go.Proofs.YtagbaimfigljiaaGreatDoor
