/- What the reference's leadsTo answers: the plain leadP. -/
import Derived.Test.YtedpiamfpbdhoaaGrLead
import Derived.Maps.AppendAt
import Derived.Lib.AppendZeros
namespace Go.Proofs.Ytedpiamfpbdhoaa
open Go.RowKit

theorem txVals_len (l : List ByteArray) : (txVals l).length = l.length := by simp [txVals]
/-- append of a list that lies somewhere to one of one's own. -/
theorem run_append_txs {w : World} {base : Nat} {v vd : Value} {xs d : List ByteArray} {S : Nat → Prop} (hown : w.ownsRow base 9 1 v xs.length (txVals xs)) (hd : SlAt S (StrAt w) 1 d vd) (hb : base ≤ w.heap.size) (hl : xs.length + d.length ≤ 10000) (ty : TypeId) :
    ∃ v' w', (Builtin.append_ #[26, 26] ty #[v, vd]).run Try.prog w = .ok v' w' ∧ w'.ownsRow base 9 1 v' (xs ++ d).length (txVals (xs ++ d)) ∧ w.grownBy w' v.ownBlock := by
  obtain ⟨i0, hi, hz0, hz1, hz2⟩ := info_parts str_info
  obtain ⟨a, cap, rfl, hlen, h⟩ := hd
  have e : txVals (xs ++ d) = txVals xs ++ txVals d := by simp [txVals]
  have hone : ∀ u ∈ txVals d, u.oneCell' = true := fun u hu => by
    unfold txVals at hu
    obtain ⟨t, _, rfl⟩ := List.mem_map.1 hu
    rfl
  have hsame : d.length = 0 → a = none → ∃ v' w', (Builtin.append_ #[26, 26] ty #[v, .slice a d.length cap]).run Try.prog w = .ok v' w' ∧ w'.ownsRow base 9 1 v' (xs ++ d).length (txVals (xs ++ d)) ∧ w.grownBy w' v.ownBlock := fun h0 ha => by
    have hd0 : d = [] := List.length_eq_zero_iff.1 h0
    subst hd0 ha
    refine ⟨v, w, ?_, by simpa using hown, ⟨rfl, rfl, rfl, Nat.le_refl _, fun _ _ _ => rfl⟩⟩
    rcases hown.2 with ⟨rfl, h1⟩ | ⟨g, cap', cur, rfl, _, _, hnc, _⟩
    · simp [Builtin.append_, run_underlying Try.underlying26, sizeOf, typeInfo, hi, Builtin.lenOf, Builtin.firstCells]
    · simp [Builtin.append_, run_underlying Try.underlying26, sizeOf, typeInfo, hi, Builtin.lenOf, Builtin.firstCells, hnc, storeCells]
  have hat : ∀ ad : Addr, a = some ad → (∀ j u, (txVals d)[j]? = some u → w.cell? (ad.add j) = some u) → ∃ v' w', (Builtin.append_ #[26, 26] ty #[v, .slice a d.length cap]).run Try.prog w = .ok v' w' ∧ w'.ownsRow base 9 1 v' (xs ++ d).length (txVals (xs ++ d)) ∧ w.grownBy w' v.ownBlock := fun ad ha hc => by
    subst ha
    rw [List.length_append, e]
    obtain ⟨v', w', h1, h2, h3, _⟩ := run_append_own_at (P := Try.prog) w base 26 ty 9 i0 (.string ⟨#[]⟩) 1 16 Try.underlying26 hi hz0 hz1 hz2 rfl (by decide) v xs.length (txVals xs) hown ad d.length cap (txVals d) (by rw [txVals_len, Nat.mul_one]) hc hone (by unfold maxLen; omega) (by omega) hb
    exact ⟨v', w', h1, h2, h3⟩
  rcases h with h0 | ⟨b, o, rfl, _, hr⟩
  · cases a with
    | none => exact hsame h0 rfl
    | some ad =>
      refine hat ad rfl fun j u hj => ?_
      have hd0 : d = [] := List.length_eq_zero_iff.1 h0
      subst hd0
      simp [txVals] at hj
  · refine hat _ rfl fun j u hj => ?_
    have hj' : j < d.length := by
      rw [← txVals_len d]
      exact (List.getElem?_eq_some_iff.1 hj).1
    have c0 := (hr.get j hj').1
    rw [Nat.mul_one] at c0
    have hadd : (⟨b, o, none⟩ : Addr).add j = ⟨b, o + j, none⟩ := by unfold Addr.add; split <;> simp_all
    rw [hadd, c0]
    simpa [txVals, List.getElem?_eq_getElem hj'] using hj

theorem ownsTx_lt {w : World} {B : Nat} {u : Value} {n : Nat} {xs : List Value} (h : w.ownsRow B 9 1 u n xs) : ∀ j, u.ownBlock = some j → j < w.heap.size := fun j hj => by
  obtain ⟨_, ⟨hv, _⟩ | ⟨g, cap, cur, hv, hg, hh, _⟩⟩ := h
  · subst hv; cases hj
  · subst hv
    have : g = j := by simpa [Value.ownBlock] using hj
    subst this
    rcases Nat.lt_or_ge g w.heap.size with h | h
    · exact h
    · rw [Array.getElem?_eq_none h] at hh; cases hh
theorem ownsTx_one (w : World) (s : ByteArray) : (w.alloc (.cells #[.string s] 9)).ownsRow w.heap.size 9 1 (.slice (some ⟨w.heap.size, 0, none⟩) 1 1) 1 (txVals [s]) :=
  ⟨by simp [txVals], Or.inr ⟨w.heap.size, 1, _, rfl, Nat.le_refl _, heap_alloc_new w _, Nat.le_refl _, by decide, by simp, by simp [txVals]⟩⟩
/-- a list in blocks apart from v's stays, where v grows. -/
theorem apart_grown {w w' : World} {v : Value} {g n cap : Nat} {o : Obj} {l : List ByteArray} {u : Value} (h : SlAt (fun b => b < w.heap.size ∧ v.ownBlock ≠ some b) (StrAt w) 1 l u) (hg : (w.alloc o).grownBy w' v.ownBlock) (hat : v.ownBlock = some g ∨ g = w.heap.size + 1) :
    SlAt (fun b => b < w'.heap.size ∧ (Value.slice (some ⟨g, 0, none⟩) n cap).ownBlock ≠ some b) (StrAt w') 1 l u := by
  have hsz : (w.alloc o).heap.size = w.heap.size + 1 := by simp
  refine strSl_keep ⟨fun b hb => ?_, fun _ hb => ⟨?_, fun he => ?_⟩⟩ h
  · rw [hg.block b (by omega) (fun e => hb.2 e.symm)]
    exact ((Below.refl w.heap.size w).alloc (Nat.le_refl _) o).block b hb.1
  · have := hg.size; omega
  · rename_i b
    have e : g = b := by simpa [Value.ownBlock] using he
    subst e
    rcases hat with h1 | h1
    · exact hb.2 h1
    · omega
theorem apart_later {w w' : World} {v : Value} {l : List ByteArray} {u : Value} (h : SlAt (fun b => b < w.heap.size ∧ v.ownBlock ≠ some b) (StrAt w) 1 l u) (hb : Below w.heap.size w w') : SlAt (fun b => b < w'.heap.size ∧ v.ownBlock ≠ some b) (StrAt w') 1 l u :=
  strSl_keep ⟨fun b h => hb.block b h.1, fun _ h => ⟨Nat.lt_of_lt_of_le h.1 hb.size, h.2⟩⟩ h

theorem nxtL_le {l : List Nd} {seen : List ByteArray} (h : ∀ d ∈ l, d.uses.length ≤ 24) : ∀ k, (nxtL l seen k).length ≤ 24 * k
  | 0 => Nat.le_refl _
  | k + 1 => by
    have := nxtL_le (seen := seen) h k
    have h2 : (usN l k).length ≤ 24 := by
      unfold usN
      cases hk : l[k]? with
      | none => exact Nat.zero_le _
      | some d => exact h d (List.mem_of_getElem? hk)
    unfold nxtL
    rw [List.length_append]
    split <;> simp <;> omega
theorem nxtL_size {l : List Nd} {seen : List ByteArray} (h : ∀ d ∈ l, ∀ u ∈ d.uses, u.size ≤ 8) (k : Nat) : ∀ s ∈ nxtL l seen k, s.size ≤ 8 := fun s hs => by
  obtain ⟨i, _, _, h2⟩ := nxtL_iff.1 hs
  unfold usN at h2
  cases hk : l[i]? with
  | none => rw [hk] at h2; cases h2
  | some d => rw [hk] at h2; exact h d (List.mem_of_getElem? hk) s h2
theorem addS_le (s : List ByteArray) (x : ByteArray) : (addS s x).length ≤ s.length + 1 := by
  unfold addS
  split
  · omega
  · simp

theorem lead_yes {l : List Nd} {to : ByteArray} {s : Nat} {seen : List ByteArray} {first : Bool} (hs : s < 12) (h : hasS (nxtL l seen l.length) to = true) : leadP l to (12 - s) seen first = true := by
  rw [show 12 - s = (12 - (s + 1)) + 1 by omega, leadP, if_pos h]
theorem lead_no {l : List Nd} {to : ByteArray} {s : Nat} {seen : List ByteArray} {first : Bool} (hs : s < 12) (h : hasS (nxtL l seen l.length) to = false) : leadP l to (12 - s) seen first = leadP l to (12 - (s + 1)) (addL (if first = true then [] else seen) (nxtL l seen l.length)) false := by
  rw [show 12 - s = (12 - (s + 1)) + 1 by omega, leadP, if_neg (by rw [h]; simp)]

set_option maxHeartbeats 8000000 in
theorem leadsTo_any (S : Nat → Prop) (l : List Nd) (f t : ByteArray) (v : Value) (w : World) (hS : ∀ b, S b → b < w.heap.size) (hv : SlAt S (NdAt S w) 2 l v) (h10 : l.length ≤ 10) (hu24 : ∀ d ∈ l, d.uses.length ≤ 24) (hu8 : ∀ d ∈ l, ∀ u ∈ d.uses, u.size ≤ 8) (hf8 : f.size ≤ 8) :
    Calls Try.prog 17 #[v, .string f, .string t, .int .i64 12] w fun e w' => e = .returned (.bool (leadP l t 12 [f] true)) ∧ Below w.heap.size w w' := by
  have HL := veil hv
  have hlen := hv.len
  unfold maxLen at hlen
  obtain ⟨la, lc, rfl⟩ := hv.is
  have HU24 := veil hu24
  have HU8 := veil hu8
  have HF8 := veil hf8
  clear hv hu24 hu8 hf8
  obtain ⟨i0, hi, hz0, hz1, hz2⟩ := info_parts str_info
  have HI0 := veil hi
  have HZ0 := veil hz0
  have HZ1 := veil hz1
  have HZ2 := veil hz2
  clear hi hz0 hz1 hz2
  obtain ⟨ans, hans⟩ : ∃ ans, ans = leadP l t 12 [f] true := ⟨_, rfl⟩
  rw [← hans]
  have HAns := veil hans
  clear hans
  have HStart : Hid ((w.alloc (.cells #[.string f] 9)).ownsRow w.heap.size 9 1 (.slice (some ⟨w.heap.size, 0, none⟩) 1 1) [f].length (txVals [f])) := ownsTx_one w f
  have HA : Hid (Below w.heap.size w (w.alloc (.cells #[.string f] 9))) := (Below.refl _ _).alloc (Nat.le_refl _) _
  go_enter Try.func17, Try.ntmps17
  go_wp2_with fail
  go_loopw [9, 10, 11] (fun sv fv iv wr => ∃ (s : Nat) (seen : List ByteArray) (first : Bool), s ≤ 12 ∧ iv = .int .i64 s ∧ fv = .bool first ∧ ans = leadP l t (12 - s) seen first ∧ seen.length ≤ 1 + 240 * s ∧ (∀ x ∈ seen, x.size ≤ 8) ∧ wr.ownsRow w.heap.size 9 1 sv seen.length (txVals seen) ∧ Below w.heap.size w wr) (fun _ _ i _ => 12 - (intOf i).toNat)
  case atStart => exact ⟨0, [f], true, by omega, rfl, rfl, HAns.out, by simp, fun x hx => by simp at hx; subst hx; exact HF8.out, HStart.out, HA.out⟩
  case round =>
    clear HStart HA HAns
    obtain ⟨s, seen, first, hs12, rfl, rfl, hq, hsl, hs8, hown, hbl⟩ := hrel
    obtain ⟨wo, hwo⟩ : ∃ wo, wo = wr := ⟨_, rfl⟩
    subst hwo
    have HQ := veil hq
    have HS8 := veil hs8
    have HOwn := veil hown
    have HBl := veil hbl
    have hszo := hbl.size
    clear hq hs8 hown hbl
    by_cases hlt : s < 12
    · have hlt' : (s : Int) < 12 := by omega
      have hss : seen.length ≤ 2641 := by omega
      have HSn : Hid (∀ W, Below wo.heap.size wo W → SlAt (fun b => b < W.heap.size) (StrAt W) 1 seen u9) := fun W hW => by
        have h1 := (tx_row HOwn.out (by unfold maxLen; omega) (fun x hx => by have := HS8.out x hx; unfold maxLen; omega))
        exact strSl_keep ⟨fun b hb => hW.block b hb.2, fun b hb => Nat.lt_of_lt_of_le hb.2 hW.size⟩ h1
      have HNS : Hid (∀ k, ∀ x ∈ nxtL l seen k, x.size ≤ maxLen) := fun k x hx => by have := nxtL_size HU8.out k x hx; unfold maxLen; omega
      have HNL : Hid (∀ k, (nxtL l seen k).length ≤ 24 * k) := nxtL_le HU24.out
      have HYes : Hid (hasS (nxtL l seen l.length) t = true → ans = true) := fun h => HQ.out.trans (lead_yes hlt h)
      have HNo : Hid (hasS (nxtL l seen l.length) t = false → ans = leadP l t (12 - (s + 1)) (addL (if first = true then [] else seen) (nxtL l seen l.length)) false) := fun h => HQ.out.trans (lead_no hlt h)
      clear HQ
      go_wp2_with fail
      go_loopw [12, 13] (fun nv iv wz => ∃ k : Nat, k ≤ l.length ∧ iv = .int .i64 k ∧ wz.ownsRow wo.heap.size 9 1 nv (nxtL l seen k).length (txVals (nxtL l seen k)) ∧ Below wo.heap.size wo wz) (fun _ i _ => l.length - (intOf i).toNat)
      case atStart => exact ⟨0, Nat.zero_le _, rfl, World.ownsRow_nil _ _ _ _, Below.refl _ _⟩
      case round =>
        obtain ⟨k, hk, rfl, hownN, hbz⟩ := hrel
        obtain ⟨wz, hwz⟩ : ∃ wz, wz = wr := ⟨_, rfl⟩
        subst hwz
        have HOwnN := veil hownN
        have HBz := veil hbz
        have hszz := hbz.size
        have hnle := HNL.out k
        have HBw := veil (HBl.out.trans (hbz.mono hszo))
        clear hownN
        by_cases hkt : k < l.length
        · have hkt' : (k : Int) < (l.length : Int) := by omega
          have hk0 : (0 : Int) ≤ (k : Int) := by omega
          obtain ⟨_, b, off, rfl, hb, hat⟩ := HL.out.at hkt
          obtain ⟨a1, cap1, c0, m0, c1, hu⟩ := nd_cells hat
          have hbk := hS b hb
          have d0 := (HBw.out.cell (p := ⟨b, off + k * 2, none⟩) hbk).trans c0
          have HD1 : Hid (∀ W, Below wz.heap.size wz W → W.cell? ⟨b, off + k * 2 + 1, none⟩ = some (.slice a1 l[k].uses.length cap1)) := fun W hW => ((HBw.out.trans (hW.mono HBw.out.size)).cell (p := ⟨b, off + k * 2 + 1, none⟩) hbk).trans c1
          have HT : Hid (Calls Try.prog 18 #[u9, .string l[k].name] wz fun e w' => e = .returned (.bool (hasS seen l[k].name)) ∧ Below wz.heap.size wz w') :=
            hasText_any (fun b => b < wz.heap.size) seen l[k].name u9 wz (fun _ h => h) (HSn.out wz hbz)
          have HNx : Hid (nxtL l seen (k + 1) = nxtL l seen k ++ (if hasS seen l[k].name = true then l[k].uses else [])) := by show _ = _; rw [nxtL, nmN_at hkt, usN_at hkt]
          have HUs : Hid (∀ W, Below wz.heap.size wz W → SlAt S (StrAt W) 1 l[k].uses (.slice a1 l[k].uses.length cap1)) := fun W hW => strSl_keep (Keeps.below (HBw.out.trans (hW.mono HBw.out.size)) hS) hu
          have hu24 := HU24.out _ (List.getElem_mem hkt)
          obtain ⟨oa, ocap, hoe⟩ := (HSn.out wz hbz).is
          subst hoe
          clear c0 c1 m0 hat hu hbk hb hbz
          generalize l[k].name = x at *
          generalize hus : l[k].uses = us at *
          clear hus
          cases hh : hasS seen x with
          | true =>
            rw [hh] at HT
            have HNx' : Hid (nxtL l seen (k + 1) = nxtL l seen k ++ us) := by show _ = _; rw [HNx.out, hh, if_pos rfl]
            clear HNx hh
            go_wp2_with fail
            refine HT.out.mono ?_
            rintro e w3 ⟨rfl, hb3⟩
            have d1 := HD1.out _ hb3
            have HB3 := veil (HBz.out.trans (hb3.mono hszz))
            have hsz3 := HB3.out.size
            obtain ⟨v', w', hrun, hown', hgr⟩ := run_append_txs (ownsTx_later HOwnN.out hb3) (HUs.out _ hb3) hsz3 (by omega) 26
            have HRun := veil hrun
            have HO' : Hid (w'.ownsRow wo.heap.size 9 1 v' (nxtL l seen (k + 1)).length (txVals (nxtL l seen (k + 1)))) := by
              show w'.ownsRow _ _ _ _ _ _
              rw [HNx'.out]; exact hown'
            have HB' : Hid (Below wo.heap.size wo w') := HB3.out.grown hgr hsz3 (fun q hq => ownsTx_at HOwnN.out q hq)
            clear hown' hgr hrun hb3 HT HUs HD1 HOwnN
            go_wp2_with (at_builtin; refine Lib.wpList_append_run _ rfl _ _ _ _ rfl _ _ rfl rfl _ _ HRun.out ?_)
            exact ⟨⟨k + 1, by omega, by go_num, HO'.out, HB'.out⟩, by simp [intOf]; omega⟩
          | false =>
            rw [hh] at HT
            have HNx' : Hid (nxtL l seen (k + 1) = nxtL l seen k) := by show _ = _; rw [HNx.out, hh, if_neg (by simp), List.append_nil]
            clear HNx hh
            go_wp2_with fail
            refine HT.out.mono ?_
            rintro e w3 ⟨rfl, hb3⟩
            have HB3 := veil (HBz.out.trans (hb3.mono hszz))
            have HO3 : Hid (w3.ownsRow wo.heap.size 9 1 u12 (nxtL l seen (k + 1)).length (txVals (nxtL l seen (k + 1)))) := by
              show w3.ownsRow _ _ _ _ _ _
              rw [HNx'.out]; exact ownsTx_later HOwnN.out hb3
            clear hb3 HT HUs HD1 HOwnN
            go_wp2_with fail
            exact ⟨⟨k + 1, by omega, by go_num, HO3.out, HB3.out⟩, by simp [intOf]; omega⟩
        · have hnk : ¬ (k : Int) < (l.length : Int) := by omega
          have hke : k = l.length := by omega
          subst hke
          have hnr := tx_row HOwnN.out (by unfold maxLen; omega) (HNS.out _)
          have HNr := veil hnr
          have HT : Hid (Calls Try.prog 18 #[u12, .string t] wz fun e w' => e = .returned (.bool (hasS (nxtL l seen l.length) t)) ∧ Below wz.heap.size wz w') :=
            hasText_any (fun b => b < wz.heap.size) _ t u12 wz (fun _ h => h) (hnr.imp (fun b hb => hb.2) (fun _ _ _ _ _ h => h))
          have HLate : Hid (∀ W, Below wz.heap.size wz W → Below w.heap.size w W ∧ W.ownsRow w.heap.size 9 1 u9 seen.length (txVals seen) ∧ SlAt (fun b => b < W.heap.size ∧ u9.ownBlock ≠ some b) (StrAt W) 1 (nxtL l seen l.length) u12 ∧ SlAt (fun b => b < W.heap.size) (StrAt W) 1 (nxtL l seen l.length) u12) := fun W hW => by
            have h1 := HBz.out.trans (hW.mono hszz)
            refine ⟨HBl.out.trans (h1.mono hszo), ownsTx_later HOwn.out h1, ?_, ?_⟩
            · refine strSl_keep ⟨fun b hb => hW.block b hb.2, fun b hb => ⟨Nat.lt_of_lt_of_le hb.2 hW.size, fun he => ?_⟩⟩ HNr.out
              have := ownsTx_lt HOwn.out b he
              omega
            · exact strSl_keep ⟨fun b hb => hW.block b hb.2, fun b hb => Nat.lt_of_lt_of_le hb.2 hW.size⟩ HNr.out
          have hn8 : Hid (∀ x ∈ nxtL l seen l.length, x.size ≤ 8) := nxtL_size HU8.out _
          obtain ⟨na, ncap, hne⟩ := hnr.is
          subst hne
          clear hbz HL HNS HNL HOwnN hnr HU24 HU8 HSn HNr
          generalize hnx : nxtL l seen l.length = nx at *
          clear hnx
          cases hh : hasS nx t with
          | true =>
            rw [hh] at HT
            have HR := veil (HYes.out hh)
            clear HYes HNo hh
            go_wp2_with fail
            refine HT.out.mono ?_
            rintro e w3 ⟨rfl, hb3⟩
            have HB3 := veil (HLate.out _ hb3).1
            clear hb3 HT HLate
            go_wp2_with fail
            go_ret
            exact ⟨by rw [HR.out]; rfl, HB3.out⟩
          | false =>
            rw [hh] at HT
            have HR := veil (HNo.out hh)
            clear HYes HNo hh
            cases first with
            | true =>
              have HR' : Hid (ans = leadP l t (12 - (s + 1)) (addL ([] : List ByteArray) nx) false) := HR.out
              have HL0 : Hid (([] : List ByteArray).length ≤ 1 + 240 * s) := by show _ ≤ _; simp
              have HS0 : Hid (∀ x ∈ ([] : List ByteArray), x.size ≤ 8) := fun x hx => by cases hx
              clear HR
              go_wp2_with fail
              refine HT.out.mono ?_
              rintro e w3 ⟨rfl, hb3⟩
              obtain ⟨hbw3, hown3, hap3, -⟩ := HLate.out _ hb3
              have HB3 := veil hbw3
              have HO3 : Hid (w3.ownsRow w.heap.size 9 1 (Value.slice none 0 0) ([] : List ByteArray).length (txVals ([] : List ByteArray))) := World.ownsRow_nil _ _ _ _
              have HAp3 : Hid (SlAt (fun b => b < w3.heap.size ∧ (Value.slice none 0 0).ownBlock ≠ some b) (StrAt w3) 1 nx (.slice na nx.length ncap)) := strSl_keep ⟨fun _ _ => rfl, fun b hb => ⟨hb.1, by simp [Value.ownBlock]⟩⟩ hap3
              clear hb3 HT HLate hbw3 hown3 hap3
              go_wp2_with fail
              go_loopw [9, 14] (fun sv iv wz => ∃ (k : Nat) (sn : List ByteArray), k ≤ nx.length ∧ iv = .int .i64 k ∧ addL ([] : List ByteArray) nx = addL sn (nx.drop k) ∧ sn.length ≤ 1 + 240 * s + k ∧ (∀ x ∈ sn, x.size ≤ 8) ∧ wz.ownsRow w.heap.size 9 1 sv sn.length (txVals sn) ∧ SlAt (fun b => b < wz.heap.size ∧ sv.ownBlock ≠ some b) (StrAt wz) 1 nx (.slice na nx.length ncap) ∧ Below w.heap.size w wz) (fun _ i _ => nx.length - (intOf i).toNat)
              case atStart => exact ⟨0, ([] : List ByteArray), Nat.zero_le _, rfl, rfl, HL0.out, HS0.out, HO3.out, HAp3.out, HB3.out⟩
              case round =>
                clear HO3 HAp3 HB3
                obtain ⟨k, sn, hk2, rfl, hadd, hsnl, hsn8, hownS, hap, hbz⟩ := hrel
                obtain ⟨wz, hwz⟩ : ∃ wz, wz = wr := ⟨_, rfl⟩
                subst hwz
                have HAdd := veil hadd
                have HSn8 := veil hsn8
                have HOwnS := veil hownS
                have HAp := veil hap
                have HBz := veil hbz
                have hszz := hbz.size
                have hnnx : nx.length ≤ 240 := by omega
                clear hadd hsn8 hownS hbz
                by_cases hkt : k < nx.length
                · have hkt' : (k : Int) < (nx.length : Int) := by omega
                  have hk0 : (0 : Int) ≤ (k : Int) := by omega
                  obtain ⟨_, b, off, rfl, ⟨hb1, hb2⟩, c0, m0⟩ := hap.at hkt
                  rw [Nat.mul_one] at c0
                  have hr := tx_row HOwnS.out (by unfold maxLen; omega) (fun x hx => by have := HSn8.out x hx; unfold maxLen; omega)
                  have HT : Hid (Calls Try.prog 18 #[u9, .string nx[k]] wz fun e w' => e = .returned (.bool (hasS sn nx[k])) ∧ Below wz.heap.size wz w') :=
                    hasText_any (fun b => b < wz.heap.size) sn nx[k] u9 wz (fun _ h => h) (hr.imp (fun b hb => hb.2) (fun _ _ _ _ _ h => h))
                  have HAdd' : Hid (addL ([] : List ByteArray) nx = addL (addS sn nx[k]) (nx.drop (k + 1))) := by show _ = _; rw [HAdd.out, List.drop_eq_getElem_cons hkt]; rfl
                  have HD0 : Hid (∀ W, Below wz.heap.size wz W → W.cell? ⟨b, off + k, none⟩ = some (.string nx[k])) := fun W hW => (hW.cell (p := ⟨b, off + k, none⟩) hb1).trans c0
                  have hx8 := hn8.out _ (List.getElem_mem hkt)
                  obtain ⟨oa, ocap, hoe⟩ := hr.is
                  subst hoe
                  clear m0 hap HAdd hr
                  generalize nx[k] = x at *
                  cases hh : hasS sn x with
                  | true =>
                    rw [hh] at HT
                    have HA' : Hid (addL ([] : List ByteArray) nx = addL sn (nx.drop (k + 1))) := by show _ = _; rw [HAdd'.out, addS, if_pos hh]
                    clear HAdd' hh
                    go_wp2_with fail
                    refine HT.out.mono ?_
                    rintro e w4 ⟨rfl, hb4⟩
                    have HO4 := veil (ownsTx_later HOwnS.out hb4)
                    have HAp4 := veil (apart_later HAp.out hb4)
                    have HB4 := veil (HBz.out.trans (hb4.mono hszz))
                    clear hb4 HT HOwnS HAp HD0 c0
                    go_wp2_with fail
                    exact ⟨⟨k + 1, sn, by omega, by go_num, HA'.out, by omega, HSn8.out, HO4.out, HAp4.out, HB4.out⟩, by simp [intOf]; omega⟩
                  | false =>
                    rw [hh] at HT
                    have HA' : Hid (addL ([] : List ByteArray) nx = addL (sn ++ [x]) (nx.drop (k + 1))) := by show _ = _; rw [HAdd'.out, addS, if_neg (by rw [hh]; simp)]
                    have HS8' : Hid (∀ y ∈ sn ++ [x], y.size ≤ 8) := fun y hy => by
                      rcases List.mem_append.1 hy with h | h
                      · exact HSn8.out y h
                      · simp at h; subst h; exact hx8
                    clear HAdd' hh
                    go_wp2_with fail
                    refine HT.out.mono ?_
                    rintro e w4 ⟨rfl, hb4⟩
                    have d4 := HD0.out _ hb4
                    have HO4 := veil (ownsTx_later HOwnS.out hb4)
                    have HAp4 := veil (apart_later HAp.out hb4)
                    have HB4 := veil (HBz.out.trans (hb4.mono hszz))
                    have hsz4 := HB4.out.size
                    have HGr5 : Hid (∀ w', (w4.alloc (.cells #[.string x] 9)).grownBy w' (Value.ownBlock (.slice oa sn.length ocap)) → Below w.heap.size w w') := fun w' hg => by
                      have hrow := ownsTx_at HO4.out
                      exact (HB4.out.alloc (by omega) _).grown hg (by simp; omega) (fun q hq => hrow q hq)
                    clear hb4 HT HOwnS HAp HD0 c0
                    go_wp2_with (at_builtin; refine wpList_append_lies _ rfl _ _ 26 rfl w.heap.size 9 i0 (.string ⟨#[]⟩) 1 16 Try.underlying26 HI0.out HZ0.out HZ1.out HZ2.out rfl (by decide) _ _ _ rfl (HO4.out.alloc _) ⟨w4.heap.size, 0, none⟩ 1 1 [.string x] rfl rfl (tx_new _ _) (tx_one _) (by decide) (by unfold maxLen; omega) (by omega) (by simp; omega) (w4.heap.size + 1) (by simp) ?_)
                    intro g5 cap5 w5 hown5 hgrow5 hat5 hlt5
                    all_goals
                      have HB5 : Hid (Below w.heap.size w w5) := HGr5.out _ hgrow5
                      have HO5 : Hid (w5.ownsRow w.heap.size 9 1 (.slice (some ⟨g5, 0, none⟩) (sn.length + 1) cap5) (sn ++ [x]).length (txVals (sn ++ [x]))) := by
                        show w5.ownsRow _ _ _ _ _ _
                        rw [tx_snoc, List.length_append]
                        exact hown5
                      have HAp5 : Hid (SlAt (fun b => b < w5.heap.size ∧ (Value.slice (some ⟨g5, 0, none⟩) (sn.length + 1) cap5).ownBlock ≠ some b) (StrAt w5) 1 nx _) := apart_grown HAp4.out hgrow5 hat5
                      clear hown5 hgrow5 hat5 hlt5
                      go_wp2_with fail
                      exact ⟨⟨k + 1, sn ++ [x], by omega, by go_num, HA'.out, by simp; omega, HS8'.out, HO5.out, HAp5.out, HB5.out⟩, by simp [intOf]; omega⟩
                · have hnk2 : ¬ (k : Int) < (nx.length : Int) := by omega
                  have HA' : Hid (ans = leadP l t (12 - (s + 1)) sn false) := by show _ = _; rw [HR'.out, HAdd.out, List.drop_eq_nil_of_le (by omega)]; rfl
                  clear hap HAdd HAp
                  go_wp2_with fail
                  exact ⟨⟨s + 1, sn, false, by omega, by go_num, rfl, HA'.out, by omega, HSn8.out, HOwnS.out, HBz.out⟩, by simp [intOf]; omega⟩
            | false =>
              have HR' : Hid (ans = leadP l t (12 - (s + 1)) (addL seen nx) false) := HR.out
              have HL0 : Hid (seen.length ≤ 1 + 240 * s) := by show _ ≤ _; omega
              have HS0 : Hid (∀ x ∈ seen, x.size ≤ 8) := HS8.out
              clear HR
              go_wp2_with fail
              refine HT.out.mono ?_
              rintro e w3 ⟨rfl, hb3⟩
              obtain ⟨hbw3, hown3, hap3, -⟩ := HLate.out _ hb3
              have HB3 := veil hbw3
              have HO3 : Hid (w3.ownsRow w.heap.size 9 1 u9 seen.length (txVals seen)) := hown3
              have HAp3 : Hid (SlAt (fun b => b < w3.heap.size ∧ u9.ownBlock ≠ some b) (StrAt w3) 1 nx (.slice na nx.length ncap)) := hap3
              clear hb3 HT HLate hbw3 hown3 hap3
              go_wp2_with fail
              go_loopw [9, 14] (fun sv iv wz => ∃ (k : Nat) (sn : List ByteArray), k ≤ nx.length ∧ iv = .int .i64 k ∧ addL seen nx = addL sn (nx.drop k) ∧ sn.length ≤ 1 + 240 * s + k ∧ (∀ x ∈ sn, x.size ≤ 8) ∧ wz.ownsRow w.heap.size 9 1 sv sn.length (txVals sn) ∧ SlAt (fun b => b < wz.heap.size ∧ sv.ownBlock ≠ some b) (StrAt wz) 1 nx (.slice na nx.length ncap) ∧ Below w.heap.size w wz) (fun _ i _ => nx.length - (intOf i).toNat)
              case atStart => exact ⟨0, seen, Nat.zero_le _, rfl, rfl, HL0.out, HS0.out, HO3.out, HAp3.out, HB3.out⟩
              case round =>
                clear HO3 HAp3 HB3
                obtain ⟨k, sn, hk2, rfl, hadd, hsnl, hsn8, hownS, hap, hbz⟩ := hrel
                obtain ⟨wz, hwz⟩ : ∃ wz, wz = wr := ⟨_, rfl⟩
                subst hwz
                have HAdd := veil hadd
                have HSn8 := veil hsn8
                have HOwnS := veil hownS
                have HAp := veil hap
                have HBz := veil hbz
                have hszz := hbz.size
                have hnnx : nx.length ≤ 240 := by omega
                clear hadd hsn8 hownS hbz
                by_cases hkt : k < nx.length
                · have hkt' : (k : Int) < (nx.length : Int) := by omega
                  have hk0 : (0 : Int) ≤ (k : Int) := by omega
                  obtain ⟨_, b, off, rfl, ⟨hb1, hb2⟩, c0, m0⟩ := hap.at hkt
                  rw [Nat.mul_one] at c0
                  have hr := tx_row HOwnS.out (by unfold maxLen; omega) (fun x hx => by have := HSn8.out x hx; unfold maxLen; omega)
                  have HT : Hid (Calls Try.prog 18 #[u9, .string nx[k]] wz fun e w' => e = .returned (.bool (hasS sn nx[k])) ∧ Below wz.heap.size wz w') :=
                    hasText_any (fun b => b < wz.heap.size) sn nx[k] u9 wz (fun _ h => h) (hr.imp (fun b hb => hb.2) (fun _ _ _ _ _ h => h))
                  have HAdd' : Hid (addL seen nx = addL (addS sn nx[k]) (nx.drop (k + 1))) := by show _ = _; rw [HAdd.out, List.drop_eq_getElem_cons hkt]; rfl
                  have HD0 : Hid (∀ W, Below wz.heap.size wz W → W.cell? ⟨b, off + k, none⟩ = some (.string nx[k])) := fun W hW => (hW.cell (p := ⟨b, off + k, none⟩) hb1).trans c0
                  have hx8 := hn8.out _ (List.getElem_mem hkt)
                  obtain ⟨oa, ocap, hoe⟩ := hr.is
                  subst hoe
                  clear m0 hap HAdd hr
                  generalize nx[k] = x at *
                  cases hh : hasS sn x with
                  | true =>
                    rw [hh] at HT
                    have HA' : Hid (addL seen nx = addL sn (nx.drop (k + 1))) := by show _ = _; rw [HAdd'.out, addS, if_pos hh]
                    clear HAdd' hh
                    go_wp2_with fail
                    refine HT.out.mono ?_
                    rintro e w4 ⟨rfl, hb4⟩
                    have HO4 := veil (ownsTx_later HOwnS.out hb4)
                    have HAp4 := veil (apart_later HAp.out hb4)
                    have HB4 := veil (HBz.out.trans (hb4.mono hszz))
                    clear hb4 HT HOwnS HAp HD0 c0
                    go_wp2_with fail
                    exact ⟨⟨k + 1, sn, by omega, by go_num, HA'.out, by omega, HSn8.out, HO4.out, HAp4.out, HB4.out⟩, by simp [intOf]; omega⟩
                  | false =>
                    rw [hh] at HT
                    have HA' : Hid (addL seen nx = addL (sn ++ [x]) (nx.drop (k + 1))) := by show _ = _; rw [HAdd'.out, addS, if_neg (by rw [hh]; simp)]
                    have HS8' : Hid (∀ y ∈ sn ++ [x], y.size ≤ 8) := fun y hy => by
                      rcases List.mem_append.1 hy with h | h
                      · exact HSn8.out y h
                      · simp at h; subst h; exact hx8
                    clear HAdd' hh
                    go_wp2_with fail
                    refine HT.out.mono ?_
                    rintro e w4 ⟨rfl, hb4⟩
                    have d4 := HD0.out _ hb4
                    have HO4 := veil (ownsTx_later HOwnS.out hb4)
                    have HAp4 := veil (apart_later HAp.out hb4)
                    have HB4 := veil (HBz.out.trans (hb4.mono hszz))
                    have hsz4 := HB4.out.size
                    have HGr5 : Hid (∀ w', (w4.alloc (.cells #[.string x] 9)).grownBy w' (Value.ownBlock (.slice oa sn.length ocap)) → Below w.heap.size w w') := fun w' hg => by
                      have hrow := ownsTx_at HO4.out
                      exact (HB4.out.alloc (by omega) _).grown hg (by simp; omega) (fun q hq => hrow q hq)
                    clear hb4 HT HOwnS HAp HD0 c0
                    go_wp2_with (at_builtin; refine wpList_append_lies _ rfl _ _ 26 rfl w.heap.size 9 i0 (.string ⟨#[]⟩) 1 16 Try.underlying26 HI0.out HZ0.out HZ1.out HZ2.out rfl (by decide) _ _ _ rfl (HO4.out.alloc _) ⟨w4.heap.size, 0, none⟩ 1 1 [.string x] rfl rfl (tx_new _ _) (tx_one _) (by decide) (by unfold maxLen; omega) (by omega) (by simp; omega) (w4.heap.size + 1) (by simp) ?_)
                    intro g5 cap5 w5 hown5 hgrow5 hat5 hlt5
                    all_goals
                      have HB5 : Hid (Below w.heap.size w w5) := HGr5.out _ hgrow5
                      have HO5 : Hid (w5.ownsRow w.heap.size 9 1 (.slice (some ⟨g5, 0, none⟩) (sn.length + 1) cap5) (sn ++ [x]).length (txVals (sn ++ [x]))) := by
                        show w5.ownsRow _ _ _ _ _ _
                        rw [tx_snoc, List.length_append]
                        exact hown5
                      have HAp5 : Hid (SlAt (fun b => b < w5.heap.size ∧ (Value.slice (some ⟨g5, 0, none⟩) (sn.length + 1) cap5).ownBlock ≠ some b) (StrAt w5) 1 nx _) := apart_grown HAp4.out hgrow5 hat5
                      clear hown5 hgrow5 hat5 hlt5
                      go_wp2_with fail
                      exact ⟨⟨k + 1, sn ++ [x], by omega, by go_num, HA'.out, by simp; omega, HS8'.out, HO5.out, HAp5.out, HB5.out⟩, by simp [intOf]; omega⟩
                · have hnk2 : ¬ (k : Int) < (nx.length : Int) := by omega
                  have HA' : Hid (ans = leadP l t (12 - (s + 1)) sn false) := by show _ = _; rw [HR'.out, HAdd.out, List.drop_eq_nil_of_le (by omega)]; rfl
                  clear hap HAdd HAp
                  go_wp2_with fail
                  exact ⟨⟨s + 1, sn, false, by omega, by go_num, rfl, HA'.out, by omega, HSn8.out, HOwnS.out, HBz.out⟩, by simp [intOf]; omega⟩
    · have hnl : ¬ (s : Int) < 12 := by omega
      have hse : s = 12 := by omega
      subst hse
      have HR : Hid (ans = false) := HQ.out
      clear HQ HOwn HS8
      go_wp2_with fail
      go_ret
      exact ⟨by rw [HR.out]; rfl, HBl.out⟩

end Go.Proofs.Ytedpiamfpbdhoaa
