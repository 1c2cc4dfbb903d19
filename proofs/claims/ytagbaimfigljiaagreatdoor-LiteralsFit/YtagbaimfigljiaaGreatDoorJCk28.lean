import Derived.Test.YtagbaimfigljiaaGreatDoorJCk20
import Derived.Test.YtagbaimfigljiaaGreatDoorJCk23
import Derived.Test.YtagbaimfigljiaaGreatDoorJCk18
import Derived.Test.YtagbaimfigljiaaGreatDoorJCk21
import Derived.Test.YtagbaimfigljiaaGreatDoorJCk27
import Derived.Test.YtagbaimfigljiaaGreatDoorJCk14
namespace Go.Proofs.YtagbaimfigljiaaGreatDoor
open Go.RowKit
set_option maxRecDepth 100000

theorem tyOks_mem {m : Mo} {l : List Im} : ∀ {k : Nat} {x : Kn}, x ∈ tyOks m l k → ∃ q, q < k ∧ (tySol m l q).2 = 0 ∧ x = ⟨tyName m q, (tySol m l q).1⟩
  | 0, x, hx => by cases hx
  | k + 1, x, hx => by
    rw [tyOks] at hx
    rcases List.mem_append.1 hx with h | h
    · obtain ⟨q, h1, h2⟩ := tyOks_mem h
      exact ⟨q, by omega, h2⟩
    · unfold tyOk at h
      split at h
      · rename_i h0
        exact ⟨k, by omega, h0, List.mem_singleton.1 h⟩
      · cases h
theorem tyIns_mem {m : Mo} {l : List Im} {k : Nat} {x : Kn} (hx : x ∈ tyIns m l k) : ∃ q, q < k ∧ (tySol m l q).2 = 0 ∧ x = ⟨tyName m q, (tySol m l q).1⟩ := tyOks_mem ((tyIns_perm m l k).subset hx)
theorem fnOks_mem {m : Mo} {l : List Im} : ∀ {k : Nat} {x : Sg}, x ∈ fnOks m l k → ∃ q, q < k ∧ oneCode m l q = 0 ∧ x = oneSg m l q
  | 0, x, hx => by cases hx
  | k + 1, x, hx => by
    rw [fnOks] at hx
    rcases List.mem_append.1 hx with h | h
    · obtain ⟨q, h1, h2⟩ := fnOks_mem h
      exact ⟨q, by omega, h2⟩
    · unfold fnOk at h
      split at h
      · rename_i h0
        exact ⟨k, by omega, h0, List.mem_singleton.1 h⟩
      · cases h
/-- what a function of the face is. -/
theorem fnIns_mem {m : Mo} {l : List Im} {x : Sg} (hx : x ∈ fnIns m l m.funcs.length) : ∃ f ∈ m.funcs, sigCode (rhoR m l f.var) f = 0 ∧ x = ⟨f.name, kindsOf (rhoR m l f.var) f.params, (rhoR m l f.var f.result).1⟩ := by
  obtain ⟨q, hq, h0, rfl⟩ := fnOks_mem ((fnIns_perm m l _).subset hx)
  obtain ⟨h1, h2⟩ := oneCode_at (l := l) hq
  by_cases hh : hasFu (m.funcs.take q) m.funcs[q].name = true
  · rw [h1, if_pos hh] at h0; exact absurd h0 (by decide)
  · rw [h1, if_neg hh] at h0
    refine ⟨m.funcs[q], List.getElem_mem hq, h0, ?_⟩
    rw [h2, if_neg hh, sigOf, if_pos h0]

/-- the face of a module. -/
def ownR (m : Mo) (l : List Im) : Fc := ⟨tyIns m l m.types.length, fnIns m l m.funcs.length⟩

theorem rho_reach {m : Mo} {l : List Im} (hz : ∀ i ∈ l, fcSmall i.face) (vv : ByteArray) (t : Ty) : (rhoR m l vv t).1.size ≤ reachBytes :=
  solveP_le (by unfold reachBytes; omega) (fun o n => refR_le (by unfold reachBytes; omega) (Nat.le_refl _) hz _ _ _ o n) 10 t

theorem own_small {m : Mo} {l : List Im} (hz : ∀ i ∈ l, fcSmall i.face) (ht : ∀ f ∈ m.types, f.name.size ≤ 8) (hf : ∀ f ∈ m.funcs, f.name.size ≤ 8 ∧ f.params.length ≤ 8) (h24 : m.types.length + m.funcs.length ≤ 24) : fcSmall (ownR m l) := by
  have h1 := tyIns_le m l m.types.length
  have h2 := fnIns_le m l m.funcs.length
  refine ⟨⟨by show (tyIns m l m.types.length).length * 32 ≤ _; unfold reachBytes; omega, fun k hk => ?_⟩, by show (fnIns m l m.funcs.length).length * 56 ≤ _; unfold reachBytes; omega, fun g hg => ?_⟩
  · obtain ⟨q, hq, _, rfl⟩ := tyIns_mem hk
    refine ⟨?_, ?_⟩
    · show (tyName m q).size ≤ _
      rw [tyName_at hq]
      have := ht _ (List.getElem_mem hq)
      unfold reachBytes; omega
    · show (tySol m l q).1.size ≤ _
      unfold tySol
      split
      · exact Nat.zero_le _
      · exact refR_le (by unfold reachBytes; omega) (Nat.le_refl _) hz _ _ _ _ _
  · obtain ⟨f, hfm, _, rfl⟩ := fnIns_mem hg
    obtain ⟨h3, h4⟩ := hf f hfm
    refine ⟨by show f.name.size ≤ _; unfold reachBytes; omega, rho_reach hz _ _, ?_, fun p hp => ?_⟩
    · show (kindsOf (rhoR m l f.var) f.params).length * 16 ≤ _
      unfold kindsOf
      rw [List.length_map]
      unfold reachBytes; omega
    · obtain ⟨x, _, rfl⟩ := List.mem_map.1 hp
      exact rho_reach hz _ _

end Go.Proofs.YtagbaimfigljiaaGreatDoor
namespace Go.Proofs.YtagbaimfigljiaaGreatDoor
open Go.RowKit
set_option maxRecDepth 100000

def bodyBad (m : Mo) (l : List Im) (own : Fc) (k : Nat) : List Dg := if bodyCode m l own k = 0 then [] else [⟨fnName m k, bodyCode m l own k⟩]
def bodyBads (m : Mo) (l : List Im) (own : Fc) : Nat → List Dg
  | 0 => []
  | k + 1 => bodyBads m l own k ++ bodyBad m l own k
theorem bodyBads_le (m : Mo) (l : List Im) (own : Fc) : ∀ k, (bodyBads m l own k).length ≤ k
  | 0 => Nat.le_refl _
  | k + 1 => by
    have := bodyBads_le m l own k
    rw [bodyBads, List.length_append]
    unfold bodyBad
    split <;> simp <;> omega
theorem bodyBads_small {m : Mo} {l : List Im} {own : Fc} (hn : ∀ f ∈ m.funcs, f.name.size ≤ 8) : ∀ (k : Nat), ∀ x ∈ bodyBads m l own k, x.wh.size ≤ maxLen
  | 0, x, hx => by cases hx
  | k + 1, x, hx => by
    rw [bodyBads] at hx
    rcases List.mem_append.1 hx with h | h
    · exact bodyBads_small hn k x h
    · unfold bodyBad at h
      split at h
      · cases h
      · rw [List.mem_singleton.1 h]
        show (fnName m k).size ≤ _
        unfold fnName
        cases h : m.funcs[k]? with
        | none => exact Nat.zero_le _
        | some f =>
          have := hn f (List.mem_of_getElem? h)
          show f.name.size ≤ _
          unfold maxLen; omega

/-- what is wrong with a module. -/
def wrongR (m : Mo) (l : List Im) (own : Fc) : List Dg := usesUpto m.uses l m.uses.length ++ (tyBads m l m.types.length ++ bodyBads m l own m.funcs.length)

set_option maxRecDepth 100000 in
set_option maxHeartbeats 4000000 in
theorem functions_mod (S : Nat → Prop) (m : Mo) (l : List Im) (own : Fc) (vm vl vo : Value) (w : World) (hS : ∀ b, S b → b < w.heap.size) (hm : MoIs S w m vm) (hl : SlAt S (ImAt S w) 4 l vl) (ho : FcIs S w own vo) (hz : ∀ i ∈ l, fcSmall i.face) (hzo : fcSmall own) (h0 : moFault m = 0) (hzm : moSmall m) :
    Calls Tryz.prog 87 #[vm, vl, vo] w fun e w' => ∃ u, e = .returned u ∧ SlAt (fun b => w.heap.size ≤ b ∧ b < w'.heap.size) (DgAt w') 2 (bodyBads m l own m.funcs.length) u ∧ Below w.heap.size w w' := by
  have hcnt := mo_counts h0 hzm
  have HOne : Hid (∀ W k, k < m.funcs.length → Below w.heap.size w W → Calls Tryz.prog 161 #[vm, vl, vo, .int .i64 (k : Nat)] W fun e w' => e = .returned (.int .i64 (bodyCode m l own k)) ∧ Below W.heap.size W w') := fun W k hk hW =>
    bodyOne_any S m l own k vm vl vo W (fun b hb => Nat.lt_of_lt_of_le (hS b hb) hW.size) (hm.keep (Keeps.below hW hS)) (imSl_keep (Keeps.below hW hS) hl) (ho.keep (Keeps.below hW hS)) hz hzo (fun f hf => (mo_types h0 f hf).2) (by unfold reachBytes; omega) (mo_funcs h0) (fu_body h0) hk
  have hn8 : ∀ f ∈ m.funcs, f.name.size ≤ 8 := fun f hf => ident_eight (mo_funcs h0 f hf).1
  have HSm := veil (bodyBads_small (l := l) (own := own) hn8)
  have HLe := veil (bodyBads_le m l own)
  obtain ⟨vu, vty, vf, rfl, hu, hts, hf⟩ := hm
  have HF := veil hf
  obtain ⟨u1, u2, u3, rfl⟩ := hu.slice
  obtain ⟨t1, t2, t3, rfl⟩ := hts.slice
  obtain ⟨f1, f3, rfl⟩ := hf.is
  obtain ⟨la, ln, lc, rfl⟩ := hl.slice
  obtain ⟨vt', vf', rfl, ho1, ho2⟩ := ho
  obtain ⟨o1, o2, o3, rfl⟩ := ho1.slice
  obtain ⟨o4, o5, o6, rfl⟩ := ho2.slice
  obtain ⟨w0, hwe, hs0, hA, q0, q1, q2, q3, q4⟩ : ∃ w0, (w.alloc (.cells #[.slice u1 u2 u3, .slice t1 t2 t3, .slice f1 m.funcs.length f3] 44)).alloc (.cells #[.slice o1 o2 o3, .slice o4 o5 o6] 30) = w0 ∧ w0.heap.size = w.heap.size + 2 ∧ Below w.heap.size w w0 ∧
      w0.cell? ⟨w.heap.size, 0, none⟩ = some (.slice u1 u2 u3) ∧ w0.cell? ⟨w.heap.size, 1, none⟩ = some (.slice t1 t2 t3) ∧ w0.cell? ⟨w.heap.size, 2, none⟩ = some (.slice f1 m.funcs.length f3) ∧ w0.cell? ⟨w.heap.size + 1, 0, none⟩ = some (.slice o1 o2 o3) ∧ w0.cell? ⟨w.heap.size + 1, 1, none⟩ = some (.slice o4 o5 o6) :=
    ⟨_, rfl, by simp, ((Below.refl _ _).alloc (Nat.le_refl _) _).alloc (by simp) _, by simp [go_sem], by simp [go_sem], by simp [go_sem], by simp [go_sem], by simp [go_sem]⟩
  have HBox : Hid (∀ W, Below w0.heap.size w0 W → (W.cell? ⟨w.heap.size, 0, none⟩ = some (.slice u1 u2 u3) ∧ W.cell? ⟨w.heap.size, 1, none⟩ = some (.slice t1 t2 t3) ∧ W.cell? ⟨w.heap.size, 2, none⟩ = some (.slice f1 m.funcs.length f3) ∧ W.cell? ⟨w.heap.size + 1, 0, none⟩ = some (.slice o1 o2 o3) ∧ W.cell? ⟨w.heap.size + 1, 1, none⟩ = some (.slice o4 o5 o6)) ∧ Below w.heap.size w W) := fun W h => by
    have l0 : w.heap.size < w0.heap.size := by omega
    have l1 : w.heap.size + 1 < w0.heap.size := by omega
    exact ⟨⟨(h.cell (p := ⟨w.heap.size, 0, none⟩) l0).trans q0, (h.cell (p := ⟨w.heap.size, 1, none⟩) l0).trans q1, (h.cell (p := ⟨w.heap.size, 2, none⟩) l0).trans q2, (h.cell (p := ⟨w.heap.size + 1, 0, none⟩) l1).trans q3, (h.cell (p := ⟨w.heap.size + 1, 1, none⟩) l1).trans q4⟩, hA.trans (h.mono hA.size)⟩
  have HWe := veil hwe
  have HFu : Hid (∀ k (hk : k < m.funcs.length), (m.funcs[k]).name.size ≤ 8) := fun k hk => hn8 _ (List.getElem_mem hk)
  have hl24 : m.funcs.length ≤ 24 := by omega
  have hw0 : w.heap.size ≤ w0.heap.size := hA.size
  clear hu hts hf hl hwe hA ho1 ho2 hz hzo h0 hzm hcnt hn8 hs0
  obtain ⟨i0, hi, hz0, hz1, hz2⟩ := info_parts infoDg
  go_enter Tryz.func87, Tryz.ntmps87
  go_wp2_with fail
  rw [HWe.out]
  clear HWe
  go_loopw [7, 14] (fun v i wr => ∃ k : Nat, k ≤ m.funcs.length ∧ i = .int .i64 k ∧ wr.ownsRow w0.heap.size 53 2 v (bodyBads m l own k).length (dgCells (bodyBads m l own k)) ∧ Below w0.heap.size w0 wr) (fun _ i _ => m.funcs.length - (intOf i).toNat)
  case atStart => exact ⟨0, Nat.zero_le _, rfl, World.ownsRow_nil _ _ _ _, Below.refl _ _⟩
  case round =>
    obtain ⟨k, hk, rfl, hown, hbl⟩ := hrel
    clear q0 q1 q2 q3 q4
    have hszr := hbl.size
    obtain ⟨⟨c0, c1, c2, c3, c4⟩, hbw⟩ := HBox.out wr hbl
    have HOwn := veil hown
    have HBl := veil hbl
    have HBw := veil hbw
    have hLe := HLe.out k
    clear hown hbl hbw
    by_cases hlt : k < m.funcs.length
    · have hlt' : (k : Int) < (m.funcs.length : Int) := by omega
      have hk0 : (0 : Int) ≤ (k : Int) := by omega
      obtain ⟨_, b, off, rfl, hb, hat⟩ := HF.out.at hlt
      obtain ⟨vp1, vp2, vp3, kd, fo, na, p1, p2, p3, ke, ne, fe, se, ve1, ve2, ve3, a0, a1, a2, a3, a4, a5, a6, a7, a8, a9, a10, a11, _⟩ := fu_cells hat
      have hbk := hS b hb
      have d0 := (HBw.out.cell (p := ⟨b, off + k * 12, none⟩) hbk).trans a0
      have d1 := (HBw.out.cell (p := ⟨b, off + k * 12 + 1, none⟩) hbk).trans a1
      have d2 := (HBw.out.cell (p := ⟨b, off + k * 12 + 2, none⟩) hbk).trans a2
      have d3 := (HBw.out.cell (p := ⟨b, off + k * 12 + 3, none⟩) hbk).trans a3
      have d4 := (HBw.out.cell (p := ⟨b, off + k * 12 + 4, none⟩) hbk).trans a4
      have d5 := (HBw.out.cell (p := ⟨b, off + k * 12 + 5, none⟩) hbk).trans a5
      have d6 := (HBw.out.cell (p := ⟨b, off + k * 12 + 6, none⟩) hbk).trans a6
      have d7 := (HBw.out.cell (p := ⟨b, off + k * 12 + 7, none⟩) hbk).trans a7
      have d8 := (HBw.out.cell (p := ⟨b, off + k * 12 + 8, none⟩) hbk).trans a8
      have d9 := (HBw.out.cell (p := ⟨b, off + k * 12 + 9, none⟩) hbk).trans a9
      have d10 := (HBw.out.cell (p := ⟨b, off + k * 12 + 10, none⟩) hbk).trans a10
      have d11 := (HBw.out.cell (p := ⟨b, off + k * 12 + 11, none⟩) hbk).trans a11
      have HC2 := veil (fun W => HOne.out W k hlt)
      have HNz := veil (HFu.out k hlt)
      have hnm : fnName m k = m.funcs[k].name := fnName_at hlt
      have HOk : Hid (bodyCode m l own k = 0 → bodyBads m l own (k + 1) = bodyBads m l own k) := fun h => by rw [bodyBads, bodyBad, if_pos h, List.append_nil]
      have HBad : Hid (bodyCode m l own k ≠ 0 → bodyBads m l own (k + 1) = bodyBads m l own k ++ [⟨m.funcs[k].name, bodyCode m l own k⟩]) := fun h => by rw [bodyBads, bodyBad, if_neg h, hnm]
      clear a0 a1 a2 a3 a4 a5 a6 a7 a8 a9 a10 a11 hat hnm HF HOne HFu HSm
      generalize m.funcs[k].name = nm at *
      generalize m.funcs[k].var = vr at *
      obtain ⟨W1, HW1, e0, hs1, hb1⟩ : ∃ W1, Hid (wr.alloc (.cells #[.string nm, .string vr, .slice vp1 vp2 vp3, .int .i64 kd, .string fo, .string na, .slice p1 p2 p3, .int .i64 ke, .int .i64 ne, .string fe, .string se, .slice ve1 ve2 ve3] 89) = W1) ∧ W1.cell? ⟨wr.heap.size, 0, none⟩ = some (.string nm) ∧ W1.heap.size = wr.heap.size + 1 ∧ Below wr.heap.size wr W1 :=
        ⟨_, rfl, by simp [go_sem], by simp, (Below.refl _ _).alloc (Nat.le_refl _) _⟩
      have HB01 := veil (HBl.out.trans (hb1.mono hszr))
      obtain ⟨⟨x0, x1, x2, x3, x4⟩, hbw1⟩ := HBox.out W1 HB01.out
      have HBw1 := veil hbw1
      have HOwn1 := veil (ownsRow_later HOwn.out hb1)
      generalize bodyCode m l own k = bc at *
      clear hb1 hbw1 HOwn c0 c1 c2 c3 c4
      go_wp2_with (first | (rw [HW1.out]; clear HW1 d0 d1 d2 d3 d4 d5 d6 d7 d8 d9 d10 d11) | fail)
      refine (HC2.out _ HBw1.out).mono ?_
      rintro e w2 ⟨rfl, hb2⟩
      have e2 := (hb2.cell (p := ⟨wr.heap.size, 0, none⟩) (by show wr.heap.size < _; omega)).trans e0
      have hown2 := ownsRow_later HOwn1.out hb2
      have hb02 := HB01.out.trans (hb2.mono HB01.out.size)
      have HB02 := veil hb02
      have hs2 := hb02.size
      have HOwn2 := veil hown2
      clear hb2 x0 x1 x2 x3 x4 e0 HC2 HOwn1 hb02
      by_cases hc : bc = 0
      · subst hc
        have HN := veil (HOk.out rfl)
        clear HOk HBad e2 hown2
        go_wp2_with fail
        exact ⟨⟨k + 1, by omega, by go_num, by rw [HN.out]; exact HOwn2.out, HB02.out⟩, by simp [intOf]; omega⟩
      · have hc' : (bc != 0) = true := by simp [hc]
        have HN := veil (HBad.out hc)
        clear HOk HBad hc
        go_wp2_with (at_builtin; refine wpList_append_lies _ rfl _ _ 31 rfl w0.heap.size 53 i0 (.agg #[.string ⟨#[]⟩, .int .i64 0]) 2 24 Tryz.underlying31 hi hz0 hz1 hz2 rfl (by decide) _ _ _ rfl (hown2.alloc _) ⟨w2.heap.size, 0, none⟩ 1 1 [.string nm, .int .i64 bc] rfl rfl (cell_two_new _ _ _ _) (dg_one _ _) (by decide) (by unfold maxLen; omega) (by omega) (by simp; omega) (w2.heap.size + 1) (by simp) ?_)
        intro g cap w4 hown4 hgrow hat hlt4
        have hrow := ownsRow_at hown2
        have HL4 : Hid (Below w0.heap.size w0 w4) := (HB02.out.alloc hs2 (.cells #[.string nm, .int .i64 bc] 53)).grown hgrow (by simp; omega) (fun j hj => hrow j hj)
        have HO4 : Hid (w4.ownsRow w0.heap.size 53 2 (.slice (some ⟨g, 0, none⟩) ((bodyBads m l own k).length + 1) cap) (bodyBads m l own (k + 1)).length (dgCells (bodyBads m l own (k + 1)))) := by
          show w4.ownsRow _ _ _ _ _ _
          rw [HN.out, dgCells_snoc, List.length_append]
          exact hown4
        clear hown4 hgrow hrow hown2 hat hlt4 e2
        go_wp2_with fail
        exact ⟨⟨k + 1, by omega, by go_num, HO4.out, HL4.out⟩, by simp [intOf]; omega⟩
    · have hnl : ¬ (k : Int) < (m.funcs.length : Int) := by omega
      have hke : k = m.funcs.length := by omega
      subst hke
      have HR := veil (ownsRow_dgs HOwn.out (by unfold maxLen; omega) (HSm.out _))
      clear c0 c1 c2 c3 c4 HOwn
      go_wp2_with fail
      go_ret
      exact ⟨_, rfl, HR.out.imp (fun b hb => ⟨by omega, hb.2⟩) (fun _ _ _ _ _ h => h), HBw.out⟩

end Go.Proofs.YtagbaimfigljiaaGreatDoor
namespace Go.Proofs.YtagbaimfigljiaaGreatDoor
open Go.RowKit
set_option maxRecDepth 100000

/-- three lists in a block that is made of them. -/
theorem three_ds {W : World} {d1 d2 d3 : List Dg} {v1 v2 v3 : Value} (h1 : SlAt (fun b => b < W.heap.size) (DgAt W) 2 d1 v1) (h2 : SlAt (fun b => b < W.heap.size) (DgAt W) 2 d2 v2) (h3 : SlAt (fun b => b < W.heap.size) (DgAt W) 2 d3 v3) :
    SlAt (fun b => b < (W.alloc (.cells #[v1, v2, v3] 31)).heap.size) (DsAt (fun b => b < (W.alloc (.cells #[v1, v2, v3] 31)).heap.size) (W.alloc (.cells #[v1, v2, v3] 31))) 1 [d1, d2, d3] (.slice (some ⟨W.heap.size, 0, none⟩) 3 3) := by
  have hk : Keeps (fun b => b < W.heap.size) (fun b => b < (W.alloc (.cells #[v1, v2, v3] 31)).heap.size) W (W.alloc (.cells #[v1, v2, v3] 31)) :=
    ⟨fun b hb => heap_alloc_old _ _ hb, fun b hb => by simp; omega⟩
  refine ⟨_, 3, rfl, ⟨by unfold maxLen; simp, by simp⟩, Or.inr ⟨W.heap.size, 0, rfl, by simp, ?_⟩⟩
  exact ⟨⟨v1, by simp [go_sem], dgSl_keep hk h1⟩, ⟨v2, by simp [go_sem], dgSl_keep hk h2⟩, ⟨v3, by simp [go_sem], dgSl_keep hk h3⟩, trivial⟩

/-- what the region loads. -/
def WrS (B C : Nat) (u t f o p : Value) (wr W : World) : Prop := Below wr.heap.size wr W ∧ W.cell? ⟨B, 0, none⟩ = some u ∧ W.cell? ⟨B, 1, none⟩ = some t ∧ W.cell? ⟨B, 2, none⟩ = some f ∧ W.cell? ⟨C, 0, none⟩ = some o ∧ W.cell? ⟨C, 1, none⟩ = some p
theorem WrS.below {B C : Nat} {u t f o p : Value} {wr W : World} (h : WrS B C u t f o p wr W) : Below wr.heap.size wr W := h.1
theorem WrS.later {B C : Nat} {u t f o p : Value} {wr W W' : World} (h : WrS B C u t f o p wr W) (hb : Below W.heap.size W W') : WrS B C u t f o p wr W' := by
  obtain ⟨h0, h1, h2, h3, h4, h5⟩ := h
  have hk : ∀ (a : Addr) v, W.cell? a = some v → W'.cell? a = some v := fun a v hv => (hb.cell (World.block_lt_of_cell? _ _ hv)).trans hv
  exact ⟨h0.trans (hb.mono h0.size), hk _ _ h1, hk _ _ h2, hk _ _ h3, hk _ _ h4, hk _ _ h5⟩
theorem WrS.box {B C : Nat} {u t f o p : Value} {wr W : World} {x : Obj} (h : WrS B C u t f o p wr W) : WrS B C u t f o p wr (W.alloc x) := h.later ((Below.refl _ _).alloc (Nat.le_refl _) _)

theorem bel_two {w a b : World} (h : Below w.drew.heap.size w.drew a) (h2 : Below a.heap.size a b) : Below w.heap.size w b :=
  (show Below w.heap.size w a from ⟨h.os, h.tape, h.output, h.size, h.block⟩).trans (h2.mono h.size)

theorem mo_own_small {m : Mo} {l : List Im} (hz : ∀ i ∈ l, fcSmall i.face) (h0 : moFault m = 0) (hzm : moSmall m) : fcSmall (ownR m l) :=
  own_small hz (fun f hf => ident_eight (mo_types h0 f hf).1) (fun f hf => ⟨ident_eight (mo_funcs h0 f hf).1, (mo_funcs h0 f hf).2.1⟩) (by have := mo_counts h0 hzm; omega)

theorem wrongR_is (m : Mo) (l : List Im) (own : Fc) : dsCat [usesUpto m.uses l m.uses.length, tyBads m l m.types.length, bodyBads m l own m.funcs.length] = wrongR m l own := by
  simp [dsCat, wrongR]

set_option maxRecDepth 100000 in
set_option maxHeartbeats 8000000 in
theorem wrong_any (S : Nat → Prop) (m : Mo) (l : List Im) (own : Fc) (vm vl vo : Value) (w : World) (hS : ∀ b, S b → b < w.heap.size) (hm : MoIs S w m vm) (hl : SlAt S (ImAt S w) 4 l vl) (ho : FcIs S w own vo) (hz : ∀ i ∈ l, fcSmall i.face) (hzo : fcSmall own) (h0 : moFault m = 0) (hzm : moSmall m) :
    Calls Tryz.prog 36 #[vm, vl, vo] w fun e w' => ∃ u, e = .returned u ∧ SlAt (fun b => w.heap.size ≤ b ∧ b < w'.heap.size) (DgAt w') 2 (wrongR m l own) u ∧ Below w.heap.size w w' := by
  have hcnt := mo_counts h0 hzm
  have hn8 : ∀ s ∈ m.uses, s.size ≤ 8 := fun s hs => ident_eight (mo_uses h0 s hs)
  have hf8 : ∀ f ∈ m.funcs, f.name.size ≤ 8 := fun f hf => ident_eight (mo_funcs h0 f hf).1
  have ht8 : ∀ f ∈ m.types, f.name.size ≤ 8 := fun f hf => ident_eight (mo_types h0 f hf).1
  have HT : Hid (∀ W, Below w.heap.size w W → Calls Tryz.prog 80 #[vm, vl] W fun e w' => ∃ u v, e = .returned (.tuple #[u, v]) ∧ SlAt (fun b => W.heap.size ≤ b ∧ b < w'.heap.size) (KnAt w') 2 (tyIns m l m.types.length) u ∧ SlAt (fun b => W.heap.size ≤ b ∧ b < w'.heap.size) (DgAt w') 2 (tyBads m l m.types.length) v ∧ Below W.heap.size W w') := fun W hW =>
    types_any S m l vm vl W (fun b hb => Nat.lt_of_lt_of_le (hS b hb) hW.size) (hm.keep (Keeps.below hW hS)) (imSl_keep (Keeps.below hW hS) hl) hz (mo_types h0) (by omega)
  have HU : Hid (∀ W, Below w.heap.size w W → Calls Tryz.prog 86 #[vm, vl] W fun e w' => ∃ u, e = .returned u ∧ SlAt (fun b => W.heap.size ≤ b ∧ b < w'.heap.size) (DgAt w') 2 (usesUpto m.uses l m.uses.length) u ∧ Below W.heap.size W w') := fun W hW =>
    uses_any S m l vm vl W (fun b hb => Nat.lt_of_lt_of_le (hS b hb) hW.size) (hm.keep (Keeps.below hW hS)) (imSl_keep (Keeps.below hW hS) hl) (by omega) hn8
  have HF : Hid (∀ W, Below w.heap.size w W → Calls Tryz.prog 87 #[vm, vl, vo] W fun e w' => ∃ u, e = .returned u ∧ SlAt (fun b => W.heap.size ≤ b ∧ b < w'.heap.size) (DgAt w') 2 (bodyBads m l own m.funcs.length) u ∧ Below W.heap.size W w') := fun W hW =>
    functions_mod S m l own vm vl vo W (fun b hb => Nat.lt_of_lt_of_le (hS b hb) hW.size) (hm.keep (Keeps.below hW hS)) (imSl_keep (Keeps.below hW hS) hl) (ho.keep (Keeps.below hW hS)) hz hzo h0 hzm
  have HCat : Hid (∀ (W : World) v1 v2 v3, SlAt (fun b => b < W.heap.size) (DgAt W) 2 (usesUpto m.uses l m.uses.length) v1 → SlAt (fun b => b < W.heap.size) (DgAt W) 2 (tyBads m l m.types.length) v2 → SlAt (fun b => b < W.heap.size) (DgAt W) 2 (bodyBads m l own m.funcs.length) v3 → Calls Tryz.prog 85 #[.slice (some ⟨W.heap.size, 0, none⟩) 3 3] (W.alloc (.cells #[v1, v2, v3] 31)) fun e w' => ∃ u, e = .returned u ∧ SlAt (fun b => (W.alloc (.cells #[v1, v2, v3] 31)).heap.size ≤ b ∧ b < w'.heap.size) (DgAt w') 2 (wrongR m l own) u ∧ Below (W.alloc (.cells #[v1, v2, v3] 31)).heap.size (W.alloc (.cells #[v1, v2, v3] 31)) w') := fun W v1 v2 v3 h1 h2 h3 => by
    have := concat_any (fun b => b < (W.alloc (.cells #[v1, v2, v3] 31)).heap.size) _ _ _ (fun _ h => h) (three_ds h1 h2 h3) (by
      have := usesUpto_le m.uses l m.uses.length
      have := tyBads_le m l m.types.length
      have := bodyBads_le m l own m.funcs.length
      simp only [dsLen]; omega) (fun t ht => by
      rw [wrongR_is] at ht
      unfold wrongR at ht
      rcases List.mem_append.1 ht with h | h
      · exact uses_small hn8 t h
      · rcases List.mem_append.1 h with h | h
        · exact tyBads_small ht8 _ t h
        · exact bodyBads_small hf8 _ t h)
    rw [wrongR_is] at this
    exact this
  obtain ⟨vu, vty, vf, rfl, hu, hts, hf⟩ := hm
  obtain ⟨u1, u2, u3, rfl⟩ := hu.slice
  obtain ⟨t1, t2, t3, rfl⟩ := hts.slice
  obtain ⟨f1, f2, f3, rfl⟩ := hf.slice
  obtain ⟨la, ln, lc, rfl⟩ := hl.slice
  obtain ⟨vt', vf', rfl, ho1, ho2⟩ := ho
  obtain ⟨o1, o2, o3, rfl⟩ := ho1.slice
  obtain ⟨o4, o5, o6, rfl⟩ := ho2.slice
  obtain ⟨w0, hwe, hs0, hA, q0, q1, q2, q3, q4⟩ : ∃ w0, (w.alloc (.cells #[.slice u1 u2 u3, .slice t1 t2 t3, .slice f1 f2 f3] 44)).alloc (.cells #[.slice o1 o2 o3, .slice o4 o5 o6] 30) = w0 ∧ w0.heap.size = w.heap.size + 2 ∧ Below w.heap.size w w0 ∧
      w0.cell? ⟨w.heap.size, 0, none⟩ = some (.slice u1 u2 u3) ∧ w0.cell? ⟨w.heap.size, 1, none⟩ = some (.slice t1 t2 t3) ∧ w0.cell? ⟨w.heap.size, 2, none⟩ = some (.slice f1 f2 f3) ∧ w0.cell? ⟨w.heap.size + 1, 0, none⟩ = some (.slice o1 o2 o3) ∧ w0.cell? ⟨w.heap.size + 1, 1, none⟩ = some (.slice o4 o5 o6) :=
    ⟨_, rfl, by simp, ((Below.refl _ _).alloc (Nat.le_refl _) _).alloc (by simp) _, by simp [go_sem], by simp [go_sem], by simp [go_sem], by simp [go_sem], by simp [go_sem]⟩
  have HWe := veil hwe
  have HA := veil hA
  have HBox : Hid (∀ W, Below w0.heap.size w0 W → (W.cell? ⟨w.heap.size, 0, none⟩ = some (.slice u1 u2 u3) ∧ W.cell? ⟨w.heap.size, 1, none⟩ = some (.slice t1 t2 t3) ∧ W.cell? ⟨w.heap.size, 2, none⟩ = some (.slice f1 f2 f3) ∧ W.cell? ⟨w.heap.size + 1, 0, none⟩ = some (.slice o1 o2 o3) ∧ W.cell? ⟨w.heap.size + 1, 1, none⟩ = some (.slice o4 o5 o6)) ∧ Below w.heap.size w W) := fun W h => by
    have l0 : w.heap.size < w0.heap.size := by omega
    have l1 : w.heap.size + 1 < w0.heap.size := by omega
    exact ⟨⟨(h.cell (p := ⟨w.heap.size, 0, none⟩) l0).trans q0, (h.cell (p := ⟨w.heap.size, 1, none⟩) l0).trans q1, (h.cell (p := ⟨w.heap.size, 2, none⟩) l0).trans q2, (h.cell (p := ⟨w.heap.size + 1, 0, none⟩) l1).trans q3, (h.cell (p := ⟨w.heap.size + 1, 1, none⟩) l1).trans q4⟩, hA.trans (h.mono hA.size)⟩
  clear hu hts hf hl hwe hA ho1 ho2 hz hzo h0 hzm hcnt hn8 hf8 ht8 hS
  generalize usesUpto m.uses l m.uses.length = d1 at *
  generalize tyBads m l m.types.length = d2 at *
  generalize bodyBads m l own m.funcs.length = d3 at *
  generalize wrongR m l own = dr at *
  go_enter Tryz.func36, Tryz.ntmps36
  go_wp2_with fail
  rw [HWe.out]
  clear HWe
  refine (HT.out _ HA.out).mono ?_
  rintro e w1 ⟨tu, tv, rfl, hkn, hdg, hb1⟩
  obtain ⟨ka, kn, kc, rfl⟩ := hkn.slice
  obtain ⟨da, dn, dc, rfl⟩ := hdg.slice
  obtain ⟨⟨c0, c1, c2, c3, c4⟩, hbw1⟩ := HBox.out w1 hb1
  have hs1 := hbw1.size
  have hw1 : w.heap.size + 2 ≤ w1.heap.size := by have := hb1.size; omega
  have HB1 := veil hbw1
  have HD2 : Hid (∀ W, Below w1.heap.size w1 W → SlAt (fun b => b < W.heap.size) (DgAt W) 2 d2 (.slice da dn dc)) := fun W hW => dgSl_keep (S' := fun b => b < W.heap.size) ⟨fun b hb => hW.block b hb.2, fun b hb => Nat.lt_of_lt_of_le hb.2 hW.size⟩ hdg
  have HK0 : Hid (WrS w.heap.size (w.heap.size + 1) (.slice u1 u2 u3) (.slice t1 t2 t3) (.slice f1 f2 f3) (.slice o1 o2 o3) (.slice o4 o5 o6) w1 w1.drew) := ⟨(Below.refl _ _).drew, c0, c1, c2, c3, c4⟩
  clear hkn hdg hb1 hbw1 HT q0 q1 q2 q3 q4 HBox HA hs0
  go_wp2_with fail
  clear c0 c1 c2 c3 c4
  go_region_held3 (fun W => Below w1.heap.size w1 W ∧ W.cell? ⟨w.heap.size, 0, none⟩ = some (.slice u1 u2 u3) ∧ W.cell? ⟨w.heap.size, 1, none⟩ = some (.slice t1 t2 t3) ∧ W.cell? ⟨w.heap.size, 2, none⟩ = some (.slice f1 f2 f3) ∧ W.cell? ⟨w.heap.size + 1, 0, none⟩ = some (.slice o1 o2 o3) ∧ W.cell? ⟨w.heap.size + 1, 1, none⟩ = some (.slice o4 o5 o6)) (first | exact HK0.out | exact WrS.later (by assumption) (by assumption) | exact WrS.box (by assumption))
    (first
      | (go_at_call 86; refine (HU.out _ (HB1.out.trans ((WrS.below (by assumption)).mono hs1))).mono ?_; rintro e w3 ⟨u, rfl, hsl3, hb3⟩; obtain ⟨xa, xn, xc, rfl⟩ := hsl3.slice; have HD1 : Hid (∀ W, Below w3.heap.size w3 W → SlAt (fun b => b < W.heap.size) (DgAt W) 2 d1 (.slice xa xn xc)) := fun W hW => dgSl_keep (S' := fun b => b < W.heap.size) ⟨fun b hb => hW.block b hb.2, fun b hb => Nat.lt_of_lt_of_le hb.2 hW.size⟩ hsl3; clear hsl3)
      | (go_at_call 87; refine (HF.out _ (HB1.out.trans ((WrS.below (by assumption)).mono hs1))).mono ?_; rintro e w5 ⟨u, rfl, hsl5, hb5⟩; obtain ⟨ya, yn, yc, rfl⟩ := hsl5.slice; have HD3 : Hid (∀ W, Below w5.heap.size w5 W → SlAt (fun b => b < W.heap.size) (DgAt W) 2 d3 (.slice ya yn yc)) := fun W hW => dgSl_keep (S' := fun b => b < W.heap.size) ⟨fun b hb => hW.block b hb.2, fun b hb => Nat.lt_of_lt_of_le hb.2 hW.size⟩ hsl5; clear hsl5)
      | (go_at_call 85; refine (HCat.out _ _ _ _ (HD1.out _ (by first | exact Below.refl _ _ | assumption)) (HD2.out _ (by first | exact bel_two hb3 hb5 | exact bel_two hb5 hb3)) (HD3.out _ (by first | exact Below.refl _ _ | assumption))).mono ?_; rintro e w7 ⟨u, rfl, hsl7, hb7⟩; have HS7 : Hid (SlAt (fun b => w.heap.size ≤ b ∧ b < w7.heap.size) (DgAt w7) 2 dr u) := hsl7.imp (fun b hb => ⟨by have h1 := (WrS.below (by assumption)).size; omega, hb.2⟩) (fun _ _ _ _ _ h => h); obtain ⟨za, zn, zc, rfl⟩ := hsl7.slice; clear hsl7))
  all_goals
    rename_i hHeld
    have HB7 := veil (HB1.out.trans (hHeld.1.mono hs1))
    clear hHeld
    go_wp2_with fail
    go_ret
    exact ⟨_, rfl, HS7.out, HB7.out⟩

end Go.Proofs.YtagbaimfigljiaaGreatDoor
namespace Go.Proofs.YtagbaimfigljiaaGreatDoor
open Go.RowKit
set_option maxRecDepth 100000

def noFc : Fc := ⟨[], []⟩
def chkFace (s : ByteArray) (l : List Im) : Fc := if imsFault l = 0 then (if readErr s = 0 then ownR (readMo s) l else noFc) else noFc
def chkBads (s : ByteArray) (l : List Im) : List Dg := if imsFault l = 0 then (if readErr s = 0 then wrongR (readMo s) l (ownR (readMo s) l) else [⟨noneS, 1⟩]) else []

theorem noFc_is {S : Nat → Prop} {w : World} : FcIs S w noFc (.agg #[.slice none 0 0, .slice none 0 0]) := ⟨_, _, rfl, none_sl, none_sl⟩

theorem fc_sls {S : Nat → Prop} {w : World} {f : Fc} {u v : Value} (h : FcIs S w f (.agg #[u, v])) : ∃ x1 x2 x3 y1 y2 y3, u = .slice x1 x2 x3 ∧ v = .slice y1 y2 y3 := by
  obtain ⟨vt, vf, hv, hk, hg⟩ := h
  obtain ⟨a1, a2, a3, ha⟩ := hk.slice
  obtain ⟨b1, b2, b3, hb⟩ := hg.slice
  injection hv with hv
  have hv' : [u, v] = [vt, vf] := congrArg Array.toList hv
  injection hv' with h1 h2
  injection h2 with h2 _
  exact ⟨a1, a2, a3, b1, b2, b3, h1.trans ha, h2.trans hb⟩

/-- what the region loads, while the answer is stored in a box of its own. -/
def CkS (w : World) (B C : Nat) (u t f o p : Value) (W : World) : Prop := Below w.heap.size w W ∧ W.cell? ⟨B, 0, none⟩ = some u ∧ W.cell? ⟨B, 1, none⟩ = some t ∧ W.cell? ⟨B, 2, none⟩ = some f ∧ W.cell? ⟨C, 0, none⟩ = some o ∧ W.cell? ⟨C, 1, none⟩ = some p
theorem CkS.later {w : World} {B C : Nat} {u t f o p : Value} {W W' : World} (h : CkS w B C u t f o p W) (hb : Below W.heap.size W W') : CkS w B C u t f o p W' := by
  obtain ⟨h0, h1, h2, h3, h4, h5⟩ := h
  have hk : ∀ (a : Addr) v, W.cell? a = some v → W'.cell? a = some v := fun a v hv => (hb.cell (World.block_lt_of_cell? _ _ hv)).trans hv
  exact ⟨h0.trans (hb.mono h0.size), hk _ _ h1, hk _ _ h2, hk _ _ h3, hk _ _ h4, hk _ _ h5⟩
theorem CkS.put {w : World} {B C : Nat} {u t f o p a b : Value} {W : World} (h : CkS w B C u t f o p W) (hB : w.heap.size < B) (hC : w.heap.size < C) : CkS w B C u t f o p ((W.setCell ⟨w.heap.size, 0, none⟩ a).setCell ⟨w.heap.size, 1, none⟩ b) := by
  obtain ⟨h0, h1, h2, h3, h4, h5⟩ := h
  have hk : ∀ (x : Addr) v, w.heap.size < x.block → W.cell? x = some v → ((W.setCell ⟨w.heap.size, 0, none⟩ a).setCell ⟨w.heap.size, 1, none⟩ b).cell? x = some v := fun x v hx hv => by
    rw [World.cell?_setCell_far _ _ _ _ (by show w.heap.size ≠ x.block; omega), World.cell?_setCell_far _ _ _ _ (by show w.heap.size ≠ x.block; omega)]; exact hv
  exact ⟨(h0.setCell (by show w.heap.size ≤ w.heap.size; omega) _).setCell (by show w.heap.size ≤ w.heap.size; omega) _, hk _ _ hB h1, hk _ _ hB h2, hk _ _ hB h3, hk _ _ hC h4, hk _ _ hC h5⟩

set_option maxRecDepth 100000 in
set_option maxHeartbeats 8000000 in
theorem checkMod_any (S : Nat → Prop) (s : ByteArray) (l : List Im) (v : Value) (w : World) (hS : ∀ b, S b → b < w.heap.size) (hl : SlAt S (ImAt S w) 4 l v) (hz : ∀ i ∈ l, fcSmall i.face) :
    Calls Tryz.prog 12 #[.string s, v] w fun e w' => ∃ x y d, e = .returned (.tuple #[.agg #[x, y], d, .int .i64 (imsFault l)]) ∧ FcIs (fun b => w.heap.size ≤ b ∧ b < w'.heap.size) w' (chkFace s l) (.agg #[x, y]) ∧ SlAt (fun b => w.heap.size ≤ b ∧ b < w'.heap.size) (DgAt w') 2 (chkBads s l) d ∧ Below w.heap.size w w' := by
  have HIm : Hid (∀ W, Below w.heap.size w W → Calls Tryz.prog 34 #[v] W fun e w' => e = .returned (.int .i64 (imsFault l)) ∧ Below W.heap.size W w') := fun W hW =>
    checkImports_any S l v W (fun b hb => Nat.lt_of_lt_of_le (hS b hb) hW.size) (imSl_keep (Keeps.below hW hS) hl)
  have HRd : Hid (∀ W, Calls Tryz.prog 29 #[.string s] W fun e w' => Below W.heap.size W w' ∧ ∃ v, e = .returned (.tuple #[v, .int .i64 (readErr s)]) ∧ MoIs (Fresh W.heap.size w') w' (readMo s) v) := fun W => read_all s W
  obtain ⟨h0, hzm⟩ := readMo_good s
  have hcnt := readMo_counts s
  have HFc : Hid (∀ W vm, Below w.heap.size w W → MoIs (fun b => b < W.heap.size) W (readMo s) vm → Calls Tryz.prog 35 #[vm, v] W fun e w' => ∃ u v d, e = .returned (.tuple #[.agg #[u, v], d]) ∧ FcIs (fun b => W.heap.size ≤ b ∧ b < w'.heap.size) w' (ownR (readMo s) l) (.agg #[u, v]) ∧ SlAt (fun b => W.heap.size ≤ b ∧ b < w'.heap.size) (DgAt w') 2 (fnBads (readMo s) l (readMo s).funcs.length) d ∧ Below W.heap.size W w') := fun W vm hW hm =>
    face_any (fun b => b < W.heap.size) (readMo s) l vm v W (fun _ h => h) hm (imSl_keep (S' := fun b => b < W.heap.size) ⟨fun b hb => hW.block b (hS b hb), fun b hb => Nat.lt_of_lt_of_le (hS b hb) hW.size⟩ hl) hz (mo_types h0) (by omega) (by omega) (mo_funcs h0)
  have HWr : Hid (∀ W vm vo, Below w.heap.size w W → MoIs (fun b => b < W.heap.size) W (readMo s) vm → FcIs (fun b => b < W.heap.size) W (ownR (readMo s) l) vo → Calls Tryz.prog 36 #[vm, v, vo] W fun e w' => ∃ u, e = .returned u ∧ SlAt (fun b => W.heap.size ≤ b ∧ b < w'.heap.size) (DgAt w') 2 (wrongR (readMo s) l (ownR (readMo s) l)) u ∧ Below W.heap.size W w') := fun W vm vo hW hm ho =>
    wrong_any (fun b => b < W.heap.size) (readMo s) l (ownR (readMo s) l) vm v vo W (fun _ h => h) hm (imSl_keep (S' := fun b => b < W.heap.size) ⟨fun b hb => hW.block b (hS b hb), fun b hb => Nat.lt_of_lt_of_le (hS b hb) hW.size⟩ hl) ho hz (mo_own_small hz h0 hzm) h0 hzm
  have HcF : Hid (chkFace s l = if imsFault l = 0 then (if readErr s = 0 then ownR (readMo s) l else noFc) else noFc) := rfl
  have HcB : Hid (chkBads s l = if imsFault l = 0 then (if readErr s = 0 then wrongR (readMo s) l (ownR (readMo s) l) else [⟨noneS, 1⟩]) else []) := rfl
  obtain ⟨la, ln, lc, rfl⟩ := hl.slice
  obtain ⟨W1, HW1, hs1, hb1, c0, c1, z0, z1⟩ : ∃ W1, Hid (w.alloc (.cells #[.slice none 0 0, .slice none 0 0] 30) = W1) ∧ W1.heap.size = w.heap.size + 1 ∧ Below w.heap.size w W1 ∧ W1.cell? ⟨w.heap.size, 0, none⟩ = some (.slice none 0 0) ∧ W1.cell? ⟨w.heap.size, 1, none⟩ = some (.slice none 0 0) ∧ W1.frozen? ⟨w.heap.size, 0, none⟩ = false ∧ W1.frozen? ⟨w.heap.size, 1, none⟩ = false :=
    ⟨_, rfl, by simp, (Below.refl _ _).alloc (Nat.le_refl _) _, by simp [go_sem], by simp [go_sem], by simp [go_sem], by simp [go_sem]⟩
  have HRes : Hid (∀ W, Below W1.heap.size W1 W → Below w.heap.size w W ∧ (W.cell? ⟨w.heap.size, 0, none⟩ = some (.slice none 0 0) ∧ W.cell? ⟨w.heap.size, 1, none⟩ = some (.slice none 0 0) ∧ W.frozen? ⟨w.heap.size, 0, none⟩ = false ∧ W.frozen? ⟨w.heap.size, 1, none⟩ = false)) := fun W h => by
    have l0 : w.heap.size < W1.heap.size := by omega
    exact ⟨hb1.trans (h.mono hb1.size), (h.cell (p := ⟨w.heap.size, 0, none⟩) l0).trans c0, (h.cell (p := ⟨w.heap.size, 1, none⟩) l0).trans c1, (h.frozen (p := ⟨w.heap.size, 0, none⟩) l0).trans z0, (h.frozen (p := ⟨w.heap.size, 1, none⟩) l0).trans z1⟩
  have HSet : Hid (∀ W u0 u1, Below w.heap.size w W → Below w.heap.size w ((W.setCell ⟨w.heap.size, 0, none⟩ u0).setCell ⟨w.heap.size, 1, none⟩ u1)) := fun W u0 u1 h =>
    (h.setCell (by show w.heap.size ≤ w.heap.size; omega) _).setCell (by show w.heap.size ≤ w.heap.size; omega) _
  have HB1 := veil hb1
  have hw1 : w.heap.size < W1.heap.size := by omega
  clear hl hz hS h0 hzm hcnt hb1 c0 c1 z0 z1 hs1
  generalize imsFault l = ei at *
  generalize readErr s = er at *
  generalize wrongR (readMo s) l (ownR (readMo s) l) = wrs at *
  generalize ownR (readMo s) l = own at *
  generalize fnBads (readMo s) l (readMo s).funcs.length = fbs at *
  generalize readMo s = m at *
  generalize chkFace s l = cf at *
  generalize chkBads s l = cb at *
  go_enter Tryz.func12, Tryz.ntmps12
  go_wp2_with (first | (rw [HW1.out]; clear HW1) | fail)
  refine (HIm.out _ HB1.out).mono ?_
  rintro e w2 ⟨rfl, hb2⟩
  have HB2 := veil hb2
  obtain ⟨hbw2, g0, g1, g2, g3⟩ := HRes.out w2 hb2
  have HBw2 := veil hbw2
  clear hb2 hbw2 HIm
  by_cases hei : ei = 0
  · subst hei
    rw [if_pos rfl] at HcF HcB
    have hs2 := HB2.out.size
    clear g0 g1 g2 g3
    go_wp2_with fail
    refine (HRd.out _).mono ?_
    rintro e w3 ⟨hb3, vm, rfl, hm3⟩
    have hb23 := HB2.out.trans (hb3.mono hs2)
    have HB3 := veil hb23
    have hs3 := hb23.size
    have hm3' := hm3
    obtain ⟨vu, vty, vf, rfl, hu, hts, hf⟩ := hm3'
    obtain ⟨u1, u2, u3, rfl⟩ := hu.slice
    obtain ⟨t1, t2, t3, rfl⟩ := hts.slice
    obtain ⟨f1, f2, f3, rfl⟩ := hf.slice
    obtain ⟨W4, HW4, hs4, hb4, m0, m1, m2⟩ : ∃ W4, Hid (w3.alloc (.cells #[.slice u1 u2 u3, .slice t1 t2 t3, .slice f1 f2 f3] 44) = W4) ∧ W4.heap.size = w3.heap.size + 1 ∧ Below w3.heap.size w3 W4 ∧ W4.cell? ⟨w3.heap.size, 0, none⟩ = some (.slice u1 u2 u3) ∧ W4.cell? ⟨w3.heap.size, 1, none⟩ = some (.slice t1 t2 t3) ∧ W4.cell? ⟨w3.heap.size, 2, none⟩ = some (.slice f1 f2 f3) :=
      ⟨_, rfl, by simp, (Below.refl _ _).alloc (Nat.le_refl _) _, by simp [go_sem], by simp [go_sem], by simp [go_sem]⟩
    have hb14 := hb23.trans (hb4.mono hs3)
    have HB4 := veil hb14
    have HM4 : Hid (∀ W, Below W4.heap.size W4 W → MoIs (fun b => b < W.heap.size) W m (.agg #[.slice u1 u2 u3, .slice t1 t2 t3, .slice f1 f2 f3])) := fun W hW =>
      hm3.keep ⟨fun b hb => (hW.block b (by have := hb.2; omega)).trans (hb4.block b hb.2), fun b hb => by have := hb.2; have := hW.size; omega⟩
    obtain ⟨hbw4, g0, g1, g2, g3⟩ := HRes.out W4 hb14
    have HBw4 := veil hbw4
    clear hb3 hb23 hm3 hu hts hf hb4 hb14 hbw4 HRd HBw2 HB3
    by_cases her : er = 0
    · subst her
      rw [if_pos rfl] at HcF HcB
      have HFc4 := veil (HFc.out W4 _ HBw4.out (HM4.out _ (Below.refl _ _)))
      clear HFc g0 g1 g2 g3
      go_wp2_with (first | (rw [HW4.out]; clear HW4) | fail)
      refine HFc4.out.mono ?_
      rintro e w5 ⟨xu, xv, xd, rfl, hfx, _, hb5⟩
      obtain ⟨x1, x2, x3, y1, y2, y3, hux, hvx⟩ := fc_sls hfx
      subst hux hvx
      obtain ⟨W6, HW6, hs6, hb6, n0, n1⟩ : ∃ W6, Hid (w5.alloc (.cells #[.slice x1 x2 x3, .slice y1 y2 y3] 30) = W6) ∧ W6.heap.size = w5.heap.size + 1 ∧ Below w5.heap.size w5 W6 ∧ W6.cell? ⟨w5.heap.size, 0, none⟩ = some (.slice x1 x2 x3) ∧ W6.cell? ⟨w5.heap.size, 1, none⟩ = some (.slice y1 y2 y3) :=
        ⟨_, rfl, by simp, (Below.refl _ _).alloc (Nat.le_refl _) _, by simp [go_sem], by simp [go_sem]⟩
      have hb46 := hb5.trans (hb6.mono hb5.size)
      have hs46 := hb46.size
      have hb16 := HB4.out.trans (hb46.mono HB4.out.size)
      have hb06 := (HRes.out W6 hb16).1
      have l3 : w3.heap.size < W4.heap.size := by omega
      have k0 := (hb46.cell (p := ⟨w3.heap.size, 0, none⟩) l3).trans m0
      have k1 := (hb46.cell (p := ⟨w3.heap.size, 1, none⟩) l3).trans m1
      have k2 := (hb46.cell (p := ⟨w3.heap.size, 2, none⟩) l3).trans m2
      have hW : Below W6.heap.size W6 W6.drew := (Below.refl _ _).drew
      have HWr6 : Hid (Calls Tryz.prog 36 #[.agg #[.slice u1 u2 u3, .slice t1 t2 t3, .slice f1 f2 f3], .slice la ln lc, .agg #[.slice x1 x2 x3, .slice y1 y2 y3]] W6.drew fun e w' => ∃ u, e = .returned u ∧ SlAt (fun b => W6.heap.size ≤ b ∧ b < w'.heap.size) (DgAt w') 2 wrs u ∧ Below W6.heap.size W6.drew w') :=
        HWr.out W6.drew _ _ (hb06.trans (hW.mono hb06.size)) (HM4.out W6.drew (hb46.trans (hW.mono hs46))) (hfx.keep ⟨fun b hb => (hW.block b (by have := hb.2; omega)).trans (hb6.block b hb.2), fun b hb => by have := hb.2; have := hW.size; omega⟩)
      have HFx : Hid (∀ W, (∀ b, W4.heap.size ≤ b → b < w5.heap.size → W.heap[b]? = W6.heap[b]?) → W6.heap.size ≤ W.heap.size → FcIs (fun b => w.heap.size ≤ b ∧ b < W.heap.size) W own (.agg #[.slice x1 x2 x3, .slice y1 y2 y3])) := fun W hW hWs =>
        hfx.keep ⟨fun b hb => (hW b hb.1 hb.2).trans (hb6.block b hb.2), fun b hb => by have := hb.1; have := hb.2; omega⟩
      have HK0 : Hid (CkS w w3.heap.size w5.heap.size (.slice u1 u2 u3) (.slice t1 t2 t3) (.slice f1 f2 f3) (.slice x1 x2 x3) (.slice y1 y2 y3) W6.drew) := ⟨hb06.drew, k0, k1, k2, n0, n1⟩
      have HB16 := veil hb16
      have l5 : W4.heap.size ≤ w5.heap.size := hb5.size
      have hB3 : w.heap.size < w3.heap.size := by omega
      have hB6 : w5.heap.size < W6.heap.size := by omega
      have hB5 : w.heap.size < w5.heap.size := by omega
      have hs16 := hb16.size
      clear hb5 hb6 hb46 hb16 hb06 hfx hs6 HWr HM4 HFc4 m0 m1 m2 hs46 hW hs4
      go_wp2_with (first | (rw [HW6.out]; clear HW6) | fail)
      clear k0 k1 k2 n0 n1
      go_region_held3 (fun W => Below w.heap.size w W ∧ W.cell? ⟨w3.heap.size, 0, none⟩ = some (.slice u1 u2 u3) ∧ W.cell? ⟨w3.heap.size, 1, none⟩ = some (.slice t1 t2 t3) ∧ W.cell? ⟨w3.heap.size, 2, none⟩ = some (.slice f1 f2 f3) ∧ W.cell? ⟨w5.heap.size, 0, none⟩ = some (.slice x1 x2 x3) ∧ W.cell? ⟨w5.heap.size, 1, none⟩ = some (.slice y1 y2 y3)) (first | exact HK0.out | exact CkS.later (by assumption) (by assumption) | exact CkS.put (by assumption) (by assumption) (by assumption))
        (first | (go_at_call 36; refine HWr6.out.mono ?_; rintro e w7 ⟨u, rfl, hsl7, hb7⟩; obtain ⟨da, dn, dc, rfl⟩ := hsl7.slice; have hb67 : Below W6.heap.size W6 w7 := ⟨hb7.os, hb7.tape, hb7.output, hb7.size, hb7.block⟩; obtain ⟨hbw7, g0, g1, g2, g3⟩ := HRes.out w7 (HB16.out.trans (hb67.mono hs16)); have HB7 := veil hbw7; clear hbw7))
      all_goals
        rename_i hHeld
        clear hHeld
        have HF7 : Hid (∀ W', (∀ b, w.heap.size < b → b < w7.heap.size → W'.heap[b]? = w7.heap[b]?) → w7.heap.size ≤ W'.heap.size → FcIs (fun b => w.heap.size ≤ b ∧ b < W'.heap.size) W' own (.agg #[.slice x1 x2 x3, .slice y1 y2 y3]) ∧ SlAt (fun b => w.heap.size ≤ b ∧ b < W'.heap.size) (DgAt W') 2 wrs (.slice da dn dc)) := fun W' hk hsz => by
          have h67 := hb67.size
          refine ⟨HFx.out W' (fun b h1 h2 => (hk b (by omega) (by omega)).trans (hb67.block b (by omega))) (by omega), dgSl_keep (S' := fun b => w.heap.size ≤ b ∧ b < W'.heap.size) ⟨fun b hb => hk b ?_ hb.2, fun b hb => ⟨?_, Nat.lt_of_lt_of_le hb.2 hsz⟩⟩ hsl7⟩
          · have := hb.1; omega
          · have := hb.1; omega
        clear hb67 hsl7 HWr6 HFx HK0 hb7
        go_wp2_with fail
        refine bodyPost_ret (v := .tuple #[.agg #[.slice x1 x2 x3, .slice y1 y2 y3], .slice da dn dc, .int .i64 0]) (by simp [results, Tryz.results12, go_sem, g0, g1]) rfl ?_
        obtain ⟨hF1, hF2⟩ := HF7.out ((w7.setCell ⟨w.heap.size, 0, none⟩ (.slice x1 x2 x3)).setCell ⟨w.heap.size, 1, none⟩ (.slice y1 y2 y3)) (fun b hb _ => by
          rw [Below.heap_setCell _ _ _ _ (by show b ≠ w.heap.size; omega), Below.heap_setCell _ _ _ _ (by show b ≠ w.heap.size; omega)]) (by simp)
        exact ⟨_, _, _, rfl, by rw [HcF.out]; exact hF1, by rw [HcB.out]; exact hF2, HSet.out _ _ _ HB7.out⟩
    · have he' : (er != 0) = true := by simp [her]
      rw [if_neg her] at HcF HcB
      obtain ⟨W5, HW5, hb5, n0, n1⟩ : ∃ W5, Hid (W4.alloc (.cells #[.string ⟨#[]⟩, .int .i64 1] 53) = W5) ∧ Below W4.heap.size W4 W5 ∧ W5.cell? ⟨W4.heap.size, 0, none⟩ = some (.string ⟨#[]⟩) ∧ W5.cell? ⟨W4.heap.size, 1, none⟩ = some (.int .i64 1) :=
        ⟨_, rfl, (Below.refl _ _).alloc (Nat.le_refl _) _, by simp [go_sem], by simp [go_sem]⟩
      have hlt : W4.heap.size < W5.heap.size := World.block_lt_of_cell? _ _ n0
      have hb15 := HB4.out.trans (hb5.mono HB4.out.size)
      clear g0 g1 g2 g3
      obtain ⟨hbw5, g0, g1, g2, g3⟩ := HRes.out W5 hb15
      have HBw5 := veil hbw5
      have h4 : w.heap.size < W4.heap.size := by have := HB4.out.size; omega
      have HF5 : Hid (∀ W' : World, (∀ b, w.heap.size < b → W'.heap[b]? = W5.heap[b]?) → W5.heap.size ≤ W'.heap.size → SlAt (fun b => w.heap.size ≤ b ∧ b < W'.heap.size) (DgAt W') 2 [⟨noneS, 1⟩] (.slice (some ⟨W4.heap.size, 0, none⟩) 1 1)) := fun W' hk hsz => by
        have k0 : W'.cell? ⟨W4.heap.size, 0, none⟩ = some (.string ⟨#[]⟩) := (World.cell?_of_block (hk _ h4)).trans n0
        have k1 : W'.cell? ⟨W4.heap.size, 1, none⟩ = some (.int .i64 1) := (World.cell?_of_block (hk _ h4)).trans n1
        exact ⟨_, 1, rfl, ⟨by unfold maxLen; simp, by simp⟩, Or.inr ⟨_, 0, rfl, ⟨by omega, by omega⟩, ⟨⟨k0, Nat.zero_le _⟩, k1⟩, trivial⟩⟩
      clear her HFc HWr HM4 m0 m1 m2 hs4 n0 n1 hb5 hb15 hbw5
      go_wp2_with (first | (rw [HW4.out]; clear HW4) | (rw [HW5.out]; clear HW5) | fail)
      refine bodyPost_ret (v := .tuple #[.agg #[.slice none 0 0, .slice none 0 0], .slice (some ⟨W4.heap.size, 0, none⟩) 1 1, .int .i64 0]) (by simp [results, Tryz.results12, go_sem, g0, g1]) rfl ?_
      have hF2 := HF5.out ((W5.setCell ⟨w.heap.size, 0, none⟩ (.slice none 0 0)).setCell ⟨w.heap.size, 1, none⟩ (.slice none 0 0)) (fun b hb => by
        rw [Below.heap_setCell _ _ _ _ (by show b ≠ w.heap.size; omega), Below.heap_setCell _ _ _ _ (by show b ≠ w.heap.size; omega)]) (by simp)
      exact ⟨_, _, _, rfl, by rw [HcF.out]; exact noFc_is, by rw [HcB.out]; exact hF2, HSet.out _ _ _ HBw5.out⟩
  · have he' : (ei != 0) = true := by simp [hei]
    rw [if_neg hei] at HcF HcB
    clear hei HFc HWr HRd
    go_wp2_with fail
    refine bodyPost_ret (v := .tuple #[.agg #[.slice none 0 0, .slice none 0 0], .slice none 0 0, .int .i64 ei]) (by simp [results, Tryz.results12, go_sem, g0, g1]) rfl ?_
    exact ⟨_, _, _, rfl, by rw [HcF.out]; exact noFc_is, by rw [HcB.out]; exact none_sl, HSet.out _ _ _ HBw2.out⟩

end Go.Proofs.YtagbaimfigljiaaGreatDoor
namespace Go.Proofs.YtagbaimfigljiaaGreatDoor
open Go.RowKit
set_option maxRecDepth 100000

theorem ims_none : imsFault [] = 0 := by decide +kernel
set_option maxHeartbeats 4000000 in
theorem checked_any (s : ByteArray) (w : World) :
    Calls Tryz.prog 18 #[.string s] w fun e w' => ∃ x1 x2 x3 y1 y2 y3 d, e = .returned (.tuple #[.agg #[.slice x1 x2 x3, .slice y1 y2 y3], d, .bool true]) ∧ FcIs (fun b => w.heap.size ≤ b ∧ b < w'.heap.size) w' (chkFace s []) (.agg #[.slice x1 x2 x3, .slice y1 y2 y3]) ∧ SlAt (fun b => w.heap.size ≤ b ∧ b < w'.heap.size) (DgAt w') 2 (chkBads s []) d ∧ Below w.heap.size w w' := by
  obtain ⟨W1, HW1, hs1, hb1, c0, c1, z0, z1⟩ : ∃ W1, Hid (w.alloc (.cells #[.slice none 0 0, .slice none 0 0] 30) = W1) ∧ W1.heap.size = w.heap.size + 1 ∧ Below w.heap.size w W1 ∧ W1.cell? ⟨w.heap.size, 0, none⟩ = some (.slice none 0 0) ∧ W1.cell? ⟨w.heap.size, 1, none⟩ = some (.slice none 0 0) ∧ W1.frozen? ⟨w.heap.size, 0, none⟩ = false ∧ W1.frozen? ⟨w.heap.size, 1, none⟩ = false :=
    ⟨_, rfl, by simp, (Below.refl _ _).alloc (Nat.le_refl _) _, by simp [go_sem], by simp [go_sem], by simp [go_sem], by simp [go_sem]⟩
  have hck := checkMod_any (fun b => b < W1.heap.size) s [] (.slice none 0 0) W1 (fun _ h => h) none_sl (fun i hi => by cases hi)
  rw [ims_none] at hck
  have HC := veil hck
  clear hck
  generalize chkFace s [] = cf at *
  generalize chkBads s [] = cb at *
  go_enter Tryz.func18, Tryz.ntmps18
  go_wp2_with (first | (rw [HW1.out]; clear HW1) | fail)
  refine HC.out.mono ?_
  rintro e w2 ⟨xu, xv, d, rfl, hfx, hd, hb2⟩
  obtain ⟨x1, x2, x3, y1, y2, y3, hux, hvx⟩ := fc_sls hfx
  subst hux hvx
  obtain ⟨d1, d2, d3, rfl⟩ := hd.slice
  have l0 : w.heap.size < W1.heap.size := by omega
  have hs2 := hb2.size
  obtain ⟨W3, HW3, hs3, hb3, n0, n1⟩ : ∃ W3, Hid (w2.alloc (.cells #[.slice x1 x2 x3, .slice y1 y2 y3] 30) = W3) ∧ W3.heap.size = w2.heap.size + 1 ∧ Below w2.heap.size w2 W3 ∧ W3.cell? ⟨w2.heap.size, 0, none⟩ = some (.slice x1 x2 x3) ∧ W3.cell? ⟨w2.heap.size, 1, none⟩ = some (.slice y1 y2 y3) :=
    ⟨_, rfl, by simp, (Below.refl _ _).alloc (Nat.le_refl _) _, by simp [go_sem], by simp [go_sem]⟩
  have hb13 := hb2.trans (hb3.mono hs2)
  have e0 := (hb13.cell (p := ⟨w.heap.size, 0, none⟩) l0).trans c0
  have e1 := (hb13.cell (p := ⟨w.heap.size, 1, none⟩) l0).trans c1
  have g0 := (hb13.frozen (p := ⟨w.heap.size, 0, none⟩) l0).trans z0
  have g1 := (hb13.frozen (p := ⟨w.heap.size, 1, none⟩) l0).trans z1
  have HFin : Hid (∀ W', (∀ b, w.heap.size < b → b < w2.heap.size → W'.heap[b]? = w2.heap[b]?) → w2.heap.size ≤ W'.heap.size → FcIs (fun b => w.heap.size ≤ b ∧ b < W'.heap.size) W' cf (.agg #[.slice x1 x2 x3, .slice y1 y2 y3]) ∧ SlAt (fun b => w.heap.size ≤ b ∧ b < W'.heap.size) (DgAt W') 2 cb (.slice d1 d2 d3)) := fun W' hk hsz =>
    ⟨hfx.keep ⟨fun b hb => hk b (by have := hb.1; omega) hb.2, fun b hb => ⟨by have := hb.1; omega, Nat.lt_of_lt_of_le hb.2 hsz⟩⟩, dgSl_keep (S' := fun b => w.heap.size ≤ b ∧ b < W'.heap.size) ⟨fun b hb => hk b (by have := hb.1; omega) hb.2, fun b hb => ⟨by have := hb.1; omega, Nat.lt_of_lt_of_le hb.2 hsz⟩⟩ hd⟩
  have HB3 := veil (hb1.trans (hb13.mono hb1.size))
  have HSet : Hid (∀ W u0 u1, Below w.heap.size w W → Below w.heap.size w ((W.setCell ⟨w.heap.size, 0, none⟩ u0).setCell ⟨w.heap.size, 1, none⟩ u1)) := fun W u0 u1 h =>
    (h.setCell (by show w.heap.size ≤ w.heap.size; omega) _).setCell (by show w.heap.size ≤ w.heap.size; omega) _
  have HK : Hid (∀ b, w.heap.size < b → b < w2.heap.size → W3.heap[b]? = w2.heap[b]?) := fun b _ h2 => hb3.block b h2
  have HSz : Hid (w2.heap.size ≤ W3.heap.size) := hb3.size
  clear hfx hd hb2 hb3 hb13 hb1 c0 c1 z0 z1 hs3 hs1 HC
  go_wp2_with (first | (rw [HW3.out]; clear HW3) | fail)
  refine bodyPost_ret (v := .tuple #[.agg #[.slice x1 x2 x3, .slice y1 y2 y3], .slice d1 d2 d3, .bool true]) (by simp [results, Tryz.results18, go_sem, e0, e1]) rfl ?_
  obtain ⟨hF1, hF2⟩ := HFin.out ((W3.setCell ⟨w.heap.size, 0, none⟩ (.slice x1 x2 x3)).setCell ⟨w.heap.size, 1, none⟩ (.slice y1 y2 y3)) (fun b hb h2 => by
    rw [Below.heap_setCell _ _ _ _ (by show b ≠ w.heap.size; omega), Below.heap_setCell _ _ _ _ (by show b ≠ w.heap.size; omega)]; exact HK.out b hb h2) (by simpa using HSz.out)
  exact ⟨_, _, _, _, _, _, _, rfl, hF1, hF2, HSet.out _ _ _ HB3.out⟩

end Go.Proofs.YtagbaimfigljiaaGreatDoor
