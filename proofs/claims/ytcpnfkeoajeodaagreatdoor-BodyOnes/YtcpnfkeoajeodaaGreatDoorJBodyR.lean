/- What the reference's BodyOf answers. -/
import Derived.Test.YtcpnfkeoajeodaaGreatDoorJBody6
import Derived.Test.YtcpnfkeoajeodaaGreatDoorJBo
import Derived.Test.YtcpnfkeoajeodaaGreatDoorJSign5
import Derived.Test.YtcpnfkeoajeodaaGreatDoorJBp
import Derived.Deep.RegionLaw
import Derived.Deep.RegionHeld3
namespace Go.Proofs.YtcpnfkeoajeodaaGreatDoor
open Go.RowKit
set_option maxRecDepth 100000

set_option maxRecDepth 100000 in
set_option maxHeartbeats 8000000 in
theorem bodyOf_any (S : Nat → Prop) (m : Mo) (l : List Im) (own : Fc) (k : Nat) (vm vl vo : Value) (w : World) (hS : ∀ b, S b → b < w.heap.size) (hm : MoIs S w m vm) (hl : SlAt S (ImAt S w) 4 l vl) (ho : FcIs S w own vo) (hz : ∀ i ∈ l, fcSmall i.face) (hi : imsFault l = 0) (h0 : moFault m = 0) (hn : m.types.length ≤ 24) (hk : k < m.funcs.length) :
    Calls Tryz.prog 7 #[vm, vl, vo, .int .i64 (k : Nat)] w fun e w' => e = .returned (.int .i64 (bodyCode m l own k)) ∧ Below w.heap.size w w' := by
  have HOne : Hid (∀ W, Below w.heap.size w W → Calls Tryz.prog 17 #[vm, vl, .int .i64 (k : Nat)] W (Signs W (oneSg m l k) (oneCode m l k))) := fun W hW =>
    sigOf_any S m l k vm vl W (fun b hb => Nat.lt_of_lt_of_le (hS b hb) hW.size) (hm.keep (Keeps.below hW hS)) (imSl_keep (Keeps.below hW hS) hl) hz hi (mo_types h0) hn (mo_funcs h0) hk
  have hm' := hm
  obtain ⟨vu, vty, vf, rfl, hu, hts, hf⟩ := hm'
  have hlen := hf.len
  unfold maxLen at hlen
  obtain ⟨u1, u2, u3, rfl⟩ := hu.slice
  obtain ⟨t1, t2, t3, rfl⟩ := hts.slice
  obtain ⟨f1, f3, rfl⟩ := hf.is
  obtain ⟨la, ln, lc, rfl⟩ := hl.slice
  obtain ⟨o1, o2, o3, o4, o5, o6, rfl⟩ : ∃ a b c d e f, vo = .agg #[.slice a b c, .slice d e f] := by
    obtain ⟨vt, vf, rfl, h1, h2⟩ := ho
    obtain ⟨a, b, c, rfl⟩ := h1.slice
    obtain ⟨d, e, f, rfl⟩ := h2.slice
    exact ⟨_, _, _, _, _, _, rfl⟩
  obtain ⟨_, b, off, rfl, hb, hat⟩ := hf.at hk
  obtain ⟨vp1, vp2, vp3, kd, fo, na, p1, p2, p3, ke, ne, fe, se, ve1, ve2, ve3, a0, a1, a2, a3, a4, a5, a6, a7, a8, a9, a10, a11, hsz0, hsz1, hps, hcs, hce⟩ := fu_cells hat
  have hbw := hS b hb
  obtain ⟨W2, hwe, hs2, hbel, m0, m1, m2, n0, n1⟩ : ∃ W2, (w.alloc (.cells #[.slice u1 u2 u3, .slice t1 t2 t3, .slice (some ⟨b, off, none⟩) m.funcs.length f3] 26)).alloc (.cells #[.slice o1 o2 o3, .slice o4 o5 o6] 31) = W2 ∧ W2.heap.size = w.heap.size + 2 ∧ Below w.heap.size w W2 ∧
      W2.cell? ⟨w.heap.size, 0, none⟩ = some (.slice u1 u2 u3) ∧ W2.cell? ⟨w.heap.size, 1, none⟩ = some (.slice t1 t2 t3) ∧ W2.cell? ⟨w.heap.size, 2, none⟩ = some (.slice (some ⟨b, off, none⟩) m.funcs.length f3) ∧ W2.cell? ⟨w.heap.size + 1, 0, none⟩ = some (.slice o1 o2 o3) ∧ W2.cell? ⟨w.heap.size + 1, 1, none⟩ = some (.slice o4 o5 o6) :=
    ⟨_, rfl, by simp, ((Below.refl _ _).alloc (Nat.le_refl _) _).alloc (by simp) _, by simp [go_sem], by simp [go_sem], by simp [go_sem], by simp [go_sem], by simp [go_sem]⟩
  have HWe := veil hwe
  have HBel := veil hbel
  have HOne2 := veil (HOne.out W2 hbel)
  have HBox : Hid (∀ W, Below W2.heap.size W2 W → (W.cell? ⟨w.heap.size, 0, none⟩ = some (.slice u1 u2 u3) ∧ W.cell? ⟨w.heap.size, 1, none⟩ = some (.slice t1 t2 t3) ∧ W.cell? ⟨w.heap.size, 2, none⟩ = some (.slice (some ⟨b, off, none⟩) m.funcs.length f3) ∧ W.cell? ⟨w.heap.size + 1, 0, none⟩ = some (.slice o1 o2 o3) ∧ W.cell? ⟨w.heap.size + 1, 1, none⟩ = some (.slice o4 o5 o6)) ∧ Below w.heap.size w W) := fun W h => by
    have l0 : w.heap.size < W2.heap.size := by omega
    have l1 : w.heap.size + 1 < W2.heap.size := by omega
    exact ⟨⟨(h.cell (p := ⟨w.heap.size, 0, none⟩) l0).trans m0, (h.cell (p := ⟨w.heap.size, 1, none⟩) l0).trans m1, (h.cell (p := ⟨w.heap.size, 2, none⟩) l0).trans m2, (h.cell (p := ⟨w.heap.size + 1, 0, none⟩) l1).trans n0, (h.cell (p := ⟨w.heap.size + 1, 1, none⟩) l1).trans n1⟩, hbel.trans (h.mono hbel.size)⟩
  have HA : Hid (∀ W, Below w.heap.size w W → W.cell? ⟨b, off + k * 12 + 2, none⟩ = some (.slice vp1 vp2 vp3) ∧ W.cell? ⟨b, off + k * 12 + 7, none⟩ = some (.int .i64 ke) ∧ W.cell? ⟨b, off + k * 12 + 8, none⟩ = some (.int .i64 ne) ∧ W.cell? ⟨b, off + k * 12 + 9, none⟩ = some (.string fe) ∧ W.cell? ⟨b, off + k * 12 + 10, none⟩ = some (.string se) ∧ W.cell? ⟨b, off + k * 12 + 11, none⟩ = some (.slice ve1 ve2 ve3)) := fun W h =>
    ⟨(h.cell (p := ⟨b, _, none⟩) hbw).trans a2, (h.cell (p := ⟨b, _, none⟩) hbw).trans a7, (h.cell (p := ⟨b, _, none⟩) hbw).trans a8, (h.cell (p := ⟨b, _, none⟩) hbw).trans a9, (h.cell (p := ⟨b, _, none⟩) hbw).trans a10, (h.cell (p := ⟨b, _, none⟩) hbw).trans a11⟩
  have HCode : Hid (bodyCode m l own k = if oneCode m l k = 0 then (if (bodyIs m l own k).2 = 0 then (if sEq (bodyIs m l own k).1 (oneSg m l k).result = true then 0 else 8) else (bodyIs m l own k).2) else oneCode m l k) := rfl
  have HLen := veil (one_len (l := l) hk)
  have HSz := veil (body_sizes (fc := faceOf m l own) hz hk)
  have HBodyF := veil (fu_body h0 _ (List.getElem_mem hk))
  have HIsAt := veil (bodyIs_at (l := l) (own := own) hk)
  have HPsAt := veil (bodyPs_at (l := l) hk)
  have HIsOf : Hid (∀ W v x u, Below w.heap.size w W → SlAt (fun b => b < W.heap.size) (KnAt W) 2 (bodyPs m l k) v → exFault x 1 = 0 → ExIs S w x u → Calls Tryz.prog 18 #[.agg #[.slice u1 u2 u3, .slice t1 t2 t3, .slice (some ⟨b, off, none⟩) m.funcs.length f3], .slice la ln lc, .agg #[.slice o1 o2 o3, .slice o4 o5 o6], v, u] W (IsAns (bodyPs m l k) (faceOf m l own) x W)) := fun W v x u hW hv hx hu => by
    have hk : Keeps S (fun b => b < W.heap.size) w W := ⟨fun b hb => hW.block b (hS b hb), fun b hb => Nat.lt_of_lt_of_le (hS b hb) hW.size⟩
    exact isOf_any (fun b => b < W.heap.size) m l own (bodyPs m l k) _ _ _ v W (fun _ h => h) (hm.keep hk) (imSl_keep hk hl) (ho.keep hk) hv hi (fun x => Nat.le_trans (HSz.out x) (by unfold maxLen; omega)) 10 1 (by omega) x u W (Below.refl _ _) hx (by obtain ⟨k, n, f, s, va, rfl, h⟩ := hu; exact ⟨_, _, _, _, _, rfl, h.keep hk⟩)
  have HKz : Hid (∀ t ∈ knsOf m.funcs[k].params (oneSg m l k).params, t.name.size ≤ maxLen ∧ t.is.size ≤ maxLen) := fun t ht => by
    obtain ⟨z, hz', rfl⟩ := List.mem_map.1 ht
    have h1 := ident_eight ((mo_funcs h0 _ (List.getElem_mem hk)).2.2.1 _ (List.of_mem_zip hz').1).1
    have h2 := one_sizes hz hk _ (List.of_mem_zip hz').2
    exact ⟨show z.1.name.size ≤ maxLen from by unfold maxLen; omega, Nat.le_trans h2 (by unfold maxLen; omega)⟩
  have HBody : Hid (ExIs S w m.funcs[k].body (.agg #[.int .i64 ke, .int .i64 ne, .string fe, .string se, .slice ve1 ve2 ve3])) := ⟨_, _, _, _, _, rfl, hce⟩
  have HPs := veil hps
  have h8 := (mo_funcs h0 _ (List.getElem_mem hk)).2.1
  have hk0 : (0 : Int) ≤ (k : Int) := by omega
  have hk1 : (k : Int) < (m.funcs.length : Int) := by omega
  clear HOne hwe hbel hs2 a0 a1 a2 a3 a4 a5 a6 a7 a8 a9 a10 a11 hu hts hf hat hps hcs hce hsz0 hsz1 hm hl ho hn hi h0 hz HSz
  generalize bodyCode m l own k = bc at *
  generalize oneCode m l k = oc at *
  unfold Signs at HOne2
  generalize hog : oneSg m l k = og at *
  generalize hsn : og.name = sn at *
  generalize hsr : og.result = sr at *
  have HSn := veil hsn
  have HSr := veil hsr
  clear hsn hsr hog
  go_enter Tryz.func7, Tryz.ntmps7
  go_wp2_with (first | (rw [HWe.out]; clear HWe) | fail)
  refine HOne2.out.mono ?_
  rintro e w3 ⟨xa, xn, xc, rfl, hsg, hb3⟩
  obtain ⟨W4, HW4, hb4, hs4, e0, e1, e2⟩ : ∃ W4, Hid (w3.alloc (.cells #[.string sn, .slice xa xn xc, .string sr] 44) = W4) ∧ Below w3.heap.size w3 W4 ∧ W4.heap.size = w3.heap.size + 1 ∧ W4.cell? ⟨w3.heap.size, 0, none⟩ = some (.string sn) ∧ W4.cell? ⟨w3.heap.size, 1, none⟩ = some (.slice xa xn xc) ∧ W4.cell? ⟨w3.heap.size, 2, none⟩ = some (.string sr) :=
    ⟨_, rfl, (Below.refl _ _).alloc (Nat.le_refl _) _, by simp, by simp [go_sem], by simp [go_sem], by simp [go_sem]⟩
  clear m0 m1 m2 n0 n1
  obtain ⟨⟨m0, m1, m2, n0, n1⟩, hbw4⟩ := HBox.out W4 (hb3.trans (hb4.mono hb3.size))
  obtain ⟨hgn, _, hgp⟩ := sgIs_slice (g := og) (by rw [HSn.out, HSr.out]; exact hsg)
  have HGp : Hid (∀ W, Below W4.heap.size W4 W → SlAt (fun b => b < W4.heap.size) (StrAt W) 1 og.params (.slice xa xn xc)) := fun W hW => strSl_keep ⟨fun b hb => (hW.block b (Nat.lt_of_lt_of_le hb.2 hb4.size)).trans (hb4.block b hb.2), fun b hb => Nat.lt_of_lt_of_le hb.2 hb4.size⟩ hgp
  have HGn := veil hgn
  have HB4 := veil hbw4
  have h34 : w3.heap.size < W4.heap.size := by omega
  have HBox4 : Hid (∀ W, Below W4.heap.size W4 W → (W.cell? ⟨w.heap.size, 0, none⟩ = some (.slice u1 u2 u3) ∧ W.cell? ⟨w.heap.size, 1, none⟩ = some (.slice t1 t2 t3) ∧ W.cell? ⟨w.heap.size, 2, none⟩ = some (.slice (some ⟨b, off, none⟩) m.funcs.length f3) ∧ W.cell? ⟨w.heap.size + 1, 0, none⟩ = some (.slice o1 o2 o3) ∧ W.cell? ⟨w.heap.size + 1, 1, none⟩ = some (.slice o4 o5 o6)) ∧ Below w.heap.size w W ∧ W.cell? ⟨w3.heap.size, 1, none⟩ = some (.slice xa xn xc) ∧ W.cell? ⟨w3.heap.size, 2, none⟩ = some (.string sr)) := fun W hW => by
    obtain ⟨h1, h2⟩ := HBox.out W ((hb3.trans (hb4.mono hb3.size)).trans (hW.mono (hb3.trans (hb4.mono hb3.size)).size))
    exact ⟨h1, h2, (hW.cell (p := ⟨w3.heap.size, 1, none⟩) h34).trans e1, (hW.cell (p := ⟨w3.heap.size, 2, none⟩) h34).trans e2⟩
  clear hsg hb3 hb4 hbw4 hgp HBox HOne2 hs4 hgn
  by_cases hc : oc = 0
  · subst hc
    have HCode2 : Hid (bc = if (bodyIs m l own k).2 = 0 then (if sEq (bodyIs m l own k).1 sr = true then 0 else 8) else (bodyIs m l own k).2) := by show _ = _; rw [HCode.out, if_pos rfl]
    have HLk := veil (HLen.out rfl)
    have hxn : xn = m.funcs[k].params.length := HGn.out.trans HLk.out
    subst hxn
    clear HLen HCode
    obtain ⟨i0, hi, hz0, hz1, hz2⟩ := info_parts kn_info
    go_wp2_with (first | (rw [HW4.out]; clear HW4) | fail)
    have hpl := HPs.out.is
    obtain ⟨vp1', vp3', hpe⟩ := hpl
    injection hpe with hp1 hp2 hp3
    subst hp1
    subst hp2
    subst hp3
    have HKl : Hid ((knsOf m.funcs[k].params og.params).length = m.funcs[k].params.length) := knsOf_len HLk.out
    go_loopw [11, 12] (fun v i wr => ∃ j : Nat, j ≤ m.funcs[k].params.length ∧ i = .int .i64 j ∧ wr.ownsRow W4.heap.size 41 2 v j (pkCells ((knsOf m.funcs[k].params og.params).take j)) ∧ Below W4.heap.size W4 wr) (fun _ i _ => m.funcs[k].params.length - (intOf i).toNat)
    case atStart => exact ⟨0, Nat.zero_le _, rfl, World.ownsRow_nil _ _ _ _, Below.refl _ _⟩
    case round =>
      obtain ⟨j, hj, rfl, hown, hbl⟩ := hrel
      clear m0 m1 m2 n0 n1 e0 e1 e2
      obtain ⟨⟨m0, m1, m2, n0, n1⟩, hbw, e1, e2⟩ := HBox4.out wr hbl
      obtain ⟨d2, d7, d8, d9, d10, d11⟩ := HA.out wr hbw
      have HOwn := veil hown
      have HBl := veil hbl
      have HBw := veil hbw
      have hsr := hbl.size
      clear hown
      by_cases hlt : j < m.funcs[k].params.length
      · have hlt' : (j : Int) < (m.funcs[k].params.length : Int) := by omega
        have hj0 : (0 : Int) ≤ (j : Int) := by omega
        obtain ⟨hq2, b2, off2, rfl, hb2, hat⟩ := HPs.out.at hlt
        clear hq2
        obtain ⟨kd2, fo2, na2, p21, p22, p23, x0, _⟩ := fd_cells hat
        have c0 := (hbw.cell (p := ⟨b2, off2 + j * 5, none⟩) (hS b2 hb2)).trans x0
        have hjo : j < og.params.length := by rw [HLk.out]; exact hlt
        obtain ⟨hq3, b3, off3, rfl, hb3, hst, _⟩ := (HGp.out wr hbl).at hjo
        clear hq3
        rw [Nat.mul_one] at hst
        have hkl : j < (knsOf m.funcs[k].params og.params).length := by rw [HKl.out]; exact hlt
        have HTake : Hid (pkCells ((knsOf m.funcs[k].params og.params).take (j + 1)) = pkCells ((knsOf m.funcs[k].params og.params).take j) ++ [.string m.funcs[k].params[j].name, .string og.params[j]]) := by
          show _ = _
          rw [← List.take_append_getElem hkl, pk_snoc, knsOf_at hkl hlt hjo]
        clear x0 hat hbl hbw HKl hkl HPs HGp HA HBox4 HBw HIsOf HIsAt HPsAt HCode2 HBodyF HBody hb3
        generalize m.funcs[k].params[j].name = nm at *
        generalize og.params[j] = is at *
        clear hjo
        generalize pkCells ((knsOf m.funcs[k].params og.params).take j) = vals at *
        have HBa : Hid (Below W4.heap.size W4 (wr.alloc (.cells #[.string nm, .string is] 41))) := HBl.out.alloc hsr _
        have HOa : Hid ((wr.alloc (.cells #[.string nm, .string is] 41)).drew.ownsRow W4.heap.size 41 2 u11 j vals) := (HOwn.out.alloc _).drew
        have HNw : Hid (∀ i u, ([.string nm, .string is] : List Value)[i]? = some u → (wr.alloc (.cells #[.string nm, .string is] 41)).drew.cell? ((⟨wr.heap.size, 0, none⟩ : Addr).add i) = some u) := pk_new _ _ _
        have HSz : Hid ((wr.alloc (.cells #[.string nm, .string is] 41)).drew.heap.size = wr.heap.size + 1) := by show (wr.alloc _).heap.size = _; simp
        have HBs : Hid (W4.heap.size ≤ (wr.alloc (.cells #[.string nm, .string is] 41)).drew.heap.size) := by show _ ≤ _; rw [HSz.out]; omega
        have HNl : Hid (j + 1 ≤ maxLen) := by show _ ≤ _; unfold maxLen; omega
        have HBy : Hid ((j + 1) * 32 ≤ 140737488355328) := by show _ ≤ _; omega
        have HGr : Hid (∀ w', (wr.alloc (.cells #[.string nm, .string is] 41)).drew.grownBy w' u11.ownBlock → Below W4.heap.size W4 w') := fun w' hg => by
          have hrow := ownsRow_at HOwn.out
          exact (HBa.out.drew).grown hg HBs.out (fun q hq => hrow q hq)
        have HI0 := veil hi
        have HZ0 := veil hz0
        have HZ1 := veil hz1
        have HZ2 := veil hz2
        clear hi hz0 hz1 hz2 hlen hsr
        go_wp2_with fail
        go_region_law (refine step_append_lies _ rfl _ _ 28 rfl W4.heap.size 41 i0 _ 2 32 Tryz.underlying28 HI0.out HZ0.out HZ1.out HZ2.out rfl (by omega) u11 j vals rfl HOa.out ⟨wr.heap.size, 0, none⟩ 1 1 [.string nm, .string is] rfl rfl HNw.out (pk_one _ _) (by omega) HNl.out HBy.out HBs.out (wr.heap.size + 1) HSz.out ?_; intro g cap w6 hown6 hgrow hat hlt6)
        all_goals
          have HB6 := veil (HGr.out _ hgrow)
          have HO6 : Hid (w6.ownsRow W4.heap.size 41 2 (.slice (some ⟨g, 0, none⟩) (j + 1) cap) (j + 1) (pkCells ((knsOf m.funcs[k].params og.params).take (j + 1)))) := by
            show w6.ownsRow _ _ _ _ _ _
            rw [HTake.out]
            exact hown6
          clear hown6 hgrow hat hlt6 HTake
          go_wp2_with fail
          exact ⟨⟨j + 1, by omega, by go_num, HO6.out, HB6.out⟩, by simp [intOf]; omega⟩
      · have hnl : ¬ (j : Int) < (m.funcs[k].params.length : Int) := by omega
        have hje : j = m.funcs[k].params.length := by omega
        subst hje
        have htk : (knsOf m.funcs[k].params og.params).take m.funcs[k].params.length = knsOf m.funcs[k].params og.params := List.take_of_length_le (by rw [HKl.out]; exact Nat.le_refl _)
        rw [htk] at HOwn
        have hkz : ∀ t ∈ knsOf m.funcs[k].params og.params, t.name.size ≤ maxLen ∧ t.is.size ≤ maxLen := HKz.out
        have HRow : Hid (SlAt (fun b => b < wr.heap.size) (KnAt wr) 2 (bodyPs m l k) u11) := by
          show SlAt _ _ _ _ _
          rw [HPsAt.out]
          exact pk_row (B := W4.heap.size) (by rw [HKl.out]; exact HOwn.out) (by rw [HKl.out]; unfold maxLen; omega) hkz
        obtain ⟨rv1, rv2, rv3, hv⟩ := HRow.out.slice
        subst hv
        have HI : Hid (∀ W, Below wr.heap.size wr W → Calls Tryz.prog 18 #[.agg #[.slice u1 u2 u3, .slice t1 t2 t3, .slice (some ⟨b, off, none⟩) m.funcs.length f3], .slice la ln lc, .agg #[.slice o1 o2 o3, .slice o4 o5 o6], .slice rv1 rv2 rv3, .agg #[.int .i64 ke, .int .i64 ne, .string fe, .string se, .slice ve1 ve2 ve3]] W (IsAns (bodyPs m l k) (faceOf m l own) m.funcs[k].body W)) := fun W hW =>
          HIsOf.out W _ _ _ (hbw.trans (hW.mono hbw.size)) (knSl_keep ⟨fun b hb => hW.block b hb, fun b hb => Nat.lt_of_lt_of_le hb hW.size⟩ HRow.out) HBodyF.out HBody.out
        unfold IsAns at HI
        rw [← HIsAt.out] at HI
        clear HOwn hkz HRow HPs HGp HA HBox4 HBw HIsOf HIsAt HPsAt HBodyF HBody HKl HKz htk
        generalize bodyIs m l own k = r at *
        obtain ⟨rs, rc⟩ := r
        have hl8 : w3.heap.size < wr.heap.size := Nat.lt_of_lt_of_le h34 hsr
        have HBr := veil hbw
        clear hbl hbw
        have HKeep : Hid (∀ W, Below wr.heap.size wr W → Below wr.heap.size wr W ∧ W.cell? ⟨w.heap.size, 0, none⟩ = some (.slice u1 u2 u3) ∧ W.cell? ⟨w.heap.size, 1, none⟩ = some (.slice t1 t2 t3) ∧ W.cell? ⟨w.heap.size, 2, none⟩ = some (.slice (some ⟨b, off, none⟩) m.funcs.length f3) ∧ W.cell? ⟨w.heap.size + 1, 0, none⟩ = some (.slice o1 o2 o3) ∧ W.cell? ⟨w.heap.size + 1, 1, none⟩ = some (.slice o4 o5 o6) ∧ W.cell? ⟨b, off + k * 12 + 7, none⟩ = some (.int .i64 ke) ∧ W.cell? ⟨b, off + k * 12 + 8, none⟩ = some (.int .i64 ne) ∧ W.cell? ⟨b, off + k * 12 + 9, none⟩ = some (.string fe) ∧ W.cell? ⟨b, off + k * 12 + 10, none⟩ = some (.string se) ∧ W.cell? ⟨b, off + k * 12 + 11, none⟩ = some (.slice ve1 ve2 ve3)) := fun W h => by
          have hc : ∀ (a : Addr) v, wr.cell? a = some v → W.cell? a = some v := fun a v hv => (h.cell (World.block_lt_of_cell? _ _ hv)).trans hv
          exact ⟨h, hc _ _ m0, hc _ _ m1, hc _ _ m2, hc _ _ n0, hc _ _ n1, hc _ _ d7, hc _ _ d8, hc _ _ d9, hc _ _ d10, hc _ _ d11⟩
        have HDr : Hid (Below wr.heap.size wr wr.drew) := (Below.refl _ _).drew
        go_wp2_with fail
        go_region_held3 (fun W => Below wr.heap.size wr W ∧ W.cell? ⟨w.heap.size, 0, none⟩ = some (.slice u1 u2 u3) ∧ W.cell? ⟨w.heap.size, 1, none⟩ = some (.slice t1 t2 t3) ∧ W.cell? ⟨w.heap.size, 2, none⟩ = some (.slice (some ⟨b, off, none⟩) m.funcs.length f3) ∧ W.cell? ⟨w.heap.size + 1, 0, none⟩ = some (.slice o1 o2 o3) ∧ W.cell? ⟨w.heap.size + 1, 1, none⟩ = some (.slice o4 o5 o6) ∧ W.cell? ⟨b, off + k * 12 + 7, none⟩ = some (.int .i64 ke) ∧ W.cell? ⟨b, off + k * 12 + 8, none⟩ = some (.int .i64 ne) ∧ W.cell? ⟨b, off + k * 12 + 9, none⟩ = some (.string fe) ∧ W.cell? ⟨b, off + k * 12 + 10, none⟩ = some (.string se) ∧ W.cell? ⟨b, off + k * 12 + 11, none⟩ = some (.slice ve1 ve2 ve3)) (first | exact HKeep.out _ HDr.out | exact HKeep.out _ (HDr.out.trans (hb9.mono (Nat.le_refl _))))
          (first | (go_at_call 18; refine (HI.out _ HDr.out).mono ?_; rintro e w9 ⟨rfl, hb9⟩))
        rename_i hHeld
        clear hHeld HKeep HDr
        have x2 := (hb9.cell (p := ⟨w3.heap.size, 2, none⟩) hl8).trans e2
        have HB9 : Hid (Below w.heap.size w w9) := HBr.out.trans (((Below.refl wr.heap.size wr).drew.trans (hb9.mono (Nat.le_refl _))).mono HBr.out.size)
        clear hb9 HI m0 m1 m2 n0 n1 d2 d7 d8 d9 d10 d11 e1 e2
        by_cases hrc : rc = 0
        · subst hrc
          cases hq : (rs.toList == sr.toList) with
          | true =>
            have hq' : (rs.toList != sr.toList) = false := by simp [bne, hq]
            have HR : Hid (bc = 0) := by
              show _ = _
              rw [HCode2.out]
              simp [sEq, hq]
            clear HCode2
            go_wp2_with fail
            go_ret
            exact ⟨by rw [HR.out]; rfl, HB9.out⟩
          | false =>
            have hq' : (rs.toList != sr.toList) = true := by simp [bne, hq]
            have HR : Hid (bc = 8) := by
              show _ = _
              rw [HCode2.out]
              simp [sEq, hq]
            clear HCode2
            go_wp2_with fail
            go_ret
            exact ⟨by rw [HR.out]; rfl, HB9.out⟩
        · have hrc' : (rc == 0) = false := by simp [hrc]
          have HR : Hid (bc = rc) := by show _ = _; rw [HCode2.out]; exact if_neg hrc
          clear HCode2 hrc
          go_wp2_with fail
          go_ret
          exact ⟨by rw [HR.out]; rfl, HB9.out⟩
  · have hc' : (oc != 0) = true := by simp [hc]
    have HR : Hid (bc = oc) := by show _ = _; rw [HCode.out, if_neg hc]
    clear hc HCode
    go_wp2_with (first | (rw [HW4.out]; clear HW4) | fail)
    go_ret
    exact ⟨by rw [HR.out]; rfl, HB4.out⟩

end Go.Proofs.YtcpnfkeoajeodaaGreatDoor
