/- What sign.One's closure and sign.sig answer. -/
import Derived.Test.YtkdailcadcfepafGreatJSign2
import Derived.Test.YtkdailcadcfepafGreatJAlias26
namespace Go.Proofs.YtkdailcadcfepafGreat
open Go.RowKit
set_option maxRecDepth 100000

/-- a type's kind, with a variable. -/
def rhoR (m : Mo) (l : List Im) (vv : ByteArray) (t : Ty) : Sol := solveP (refR m l m.types.length vv []) 10 t
theorem rhoR_size {m : Mo} {l : List Im} (hz : ∀ i ∈ l, fcSmall i.face) (vv : ByteArray) (t : Ty) : (rhoR m l vv t).1.size ≤ maxLen := solveP_size (fun o n => refR_size hz _ _ _ o n) 10 t

set_option maxHeartbeats 2000000 in
theorem oneCl_any (S : Nat → Prop) (m : Mo) (l : List Im) (vv : ByteArray) (t : Ty) (u1 t1 f1 la : Option Addr) (u2 u3 t2 t3 f2 f3 ln lc : Nat) (u : Value) (mB lB fB : Nat) (W : World) (hS : ∀ b, S b → b < W.heap.size) (hm : MoIs S W m (.agg #[.slice u1 u2 u3, .slice t1 t2 t3, .slice f1 f2 f3])) (hl : SlAt S (ImAt S W) 4 l (.slice la ln lc)) (hz : ∀ i ∈ l, fcSmall i.face) (hty : ∀ f ∈ m.types, tyFault f.is 1 = 0) (hn : m.types.length ≤ reachBytes)
    (ht : tyFault t 1 = 0) (hu : TyIs S W t u) (c0 : W.cell? ⟨mB, 0, none⟩ = some (.slice u1 u2 u3)) (c1 : W.cell? ⟨mB, 1, none⟩ = some (.slice t1 t2 t3)) (c2 : W.cell? ⟨mB, 2, none⟩ = some (.slice f1 f2 f3)) (c3 : W.cell? ⟨lB, 0, none⟩ = some (.slice la ln lc)) (c4 : W.cell? ⟨fB, 1, none⟩ = some (.string vv)) :
    Calls Tryz.prog 29 #[u, .pointer (some ⟨mB, 0, none⟩), .pointer (some ⟨lB, 0, none⟩), .pointer (some ⟨fB, 0, none⟩)] W (Tells W (rhoR m l vv t)) := by
  obtain ⟨k, fo, na, va, rfl, hcs⟩ := id hu
  obtain ⟨a, c, cap, rfl⟩ : ∃ a c cap, va = .slice a c cap := by
    obtain ⟨_, _, _, _, hs⟩ := hcs
    exact SlAt.slice hs
  have hb : Below W.heap.size W (W.alloc (.cells #[.int .i64 k, .string fo, .string na, .slice a c cap] 45)) := (Below.refl _ _).alloc (Nat.le_refl _) _
  have hC := solveAll_any S m l vv t _ _ _ _ (fun b hb' => Nat.lt_of_lt_of_le (hS b hb') hb.size) (hm.keep (Keeps.below hb hS)) (imSl_keep (Keeps.below hb hS) hl) hz hty ht (hu.keep (Keeps.below hb hS)) hn
  rw [solve_same ht] at hC
  have HC : Hid (Calls Tryz.prog 30 #[.agg #[.slice u1 u2 u3, .slice t1 t2 t3, .slice f1 f2 f3], .slice la ln lc, .string vv, .agg #[.int .i64 k, .string fo, .string na, .slice a c cap]] (W.alloc (.cells #[.int .i64 k, .string fo, .string na, .slice a c cap] 45)) (Tells (W.alloc (.cells #[.int .i64 k, .string fo, .string na, .slice a c cap] 45)) (rhoR m l vv t))) := hC
  have HB := veil hb
  have n0 := World.block_lt_of_cell? _ _ c0
  have n3 := World.block_lt_of_cell? _ _ c3
  have n4 := World.block_lt_of_cell? _ _ c4
  clear hC hb hcs hu hm hl hz hty hn ht hS
  generalize rhoR m l vv t = r at *
  go_enter Tryz.func29, Tryz.ntmps29
  go_wp2_with fail
  refine HC.out.mono ?_
  rintro e w3 ⟨rfl, hb3⟩
  have HB3 := veil (HB.out.trans (hb3.mono HB.out.size))
  clear hb3
  go_wp2_with fail
  go_ret2
  exact ⟨rfl, HB3.out⟩

def sigCode (ρ : Ty → Sol) (f : Fu) : Int := if parErr ρ f.params ≠ 0 then parErr ρ f.params else (ρ f.result).2
def sigOf (ρ : Ty → Sol) (f : Fu) : Sg := if sigCode ρ f = 0 then ⟨f.name, kindsOf ρ f.params, (ρ f.result).1⟩ else ⟨noneS, [], noneS⟩
theorem sgNil (S : Nat → Prop) (w : World) : SgIs S w ⟨noneS, [], noneS⟩ (.agg #[.string ⟨#[]⟩, .slice none 0 0, .string ⟨#[]⟩]) :=
  ⟨_, rfl, Nat.zero_le _, Nat.zero_le _, none, 0, rfl, ⟨by simp, by simp⟩, Or.inl rfl⟩

/-- a function's signature, and what is wrong. -/
def Signs (w : World) (g : Sg) (c : Int) (e : Ending) (w' : World) : Prop :=
  ∃ a n cap, e = .returned (.tuple #[.agg #[.string g.name, .slice a n cap, .string g.result], .int .i64 c]) ∧ SgIs (fun b => w.heap.size ≤ b ∧ b < w'.heap.size) w' g (.agg #[.string g.name, .slice a n cap, .string g.result]) ∧ Below w.heap.size w w'

set_option maxRecDepth 100000 in
set_option maxHeartbeats 4000000 in
theorem sig_any (S : Nat → Prop) (ρ : Ty → Sol) (f : Fu) (vp1 p1 ve1 : Option Addr) (vp2 vp3 p2 p3 ve2 ve3 : Nat) (kd ke ne : Int) (fo na fe se : ByteArray) (mB lB fB : Nat) (w : World) (hS : ∀ b, S b → b < w.heap.size) (hps : SlAt S (FdAt S w) 5 f.params (.slice vp1 vp2 vp3)) (hcs : TyCs S w f.result kd fo na (.slice p1 p2 p3)) (h8 : f.params.length ≤ 8) (hty : ∀ p ∈ f.params, tyFault p.is 1 = 0) (htr : tyFault f.result 1 = 0) (hnm : f.name.size ≤ 8) (hρ : ∀ t, (ρ t).1.size ≤ maxLen)
    (HF : ∀ W t u, Below w.heap.size w W → tyFault t 1 = 0 → TyIs S W t u → Calls Tryz.prog 29 #[u, .pointer (some ⟨mB, 0, none⟩), .pointer (some ⟨lB, 0, none⟩), .pointer (some ⟨fB, 0, none⟩)] W (Tells W (ρ t))) :
    Calls Tryz.prog 28 #[.agg #[.string f.name, .string f.var, .slice vp1 vp2 vp3, .int .i64 kd, .string fo, .string na, .slice p1 p2 p3, .int .i64 ke, .int .i64 ne, .string fe, .string se, .slice ve1 ve2 ve3], .func (.func 29) #[] #[.pointer (some ⟨mB, 0, none⟩), .pointer (some ⟨lB, 0, none⟩), .pointer (some ⟨fB, 0, none⟩)]] w (Signs w (sigOf ρ f) (sigCode ρ f)) := by
  obtain ⟨w2, hwe, hs2, hbel, x0, x3, x4, x5, x6, y0, y1, y2, z0, z1, z2⟩ : ∃ w2, (w.alloc (.cells #[.string f.name, .string f.var, .slice vp1 vp2 vp3, .int .i64 kd, .string fo, .string na, .slice p1 p2 p3, .int .i64 ke, .int .i64 ne, .string fe, .string se, .slice ve1 ve2 ve3] 50)).alloc (.cells #[.string ⟨#[]⟩, .slice none 0 0, .string ⟨#[]⟩] 52) = w2 ∧ w2.heap.size = w.heap.size + 2 ∧ Below w.heap.size w w2 ∧
      w2.cell? ⟨w.heap.size, 0, none⟩ = some (.string f.name) ∧ w2.cell? ⟨w.heap.size, 3, none⟩ = some (.int .i64 kd) ∧ w2.cell? ⟨w.heap.size, 4, none⟩ = some (.string fo) ∧ w2.cell? ⟨w.heap.size, 5, none⟩ = some (.string na) ∧ w2.cell? ⟨w.heap.size, 6, none⟩ = some (.slice p1 p2 p3) ∧
      w2.cell? ⟨w.heap.size + 1, 0, none⟩ = some (.string ⟨#[]⟩) ∧ w2.cell? ⟨w.heap.size + 1, 1, none⟩ = some (.slice none 0 0) ∧ w2.cell? ⟨w.heap.size + 1, 2, none⟩ = some (.string ⟨#[]⟩) ∧
      w2.frozen? ⟨w.heap.size + 1, 0, none⟩ = false ∧ w2.frozen? ⟨w.heap.size + 1, 1, none⟩ = false ∧ w2.frozen? ⟨w.heap.size + 1, 2, none⟩ = false :=
    ⟨_, rfl, by simp, ((Below.refl _ _).alloc (Nat.le_refl _) _).alloc (by simp) _, by simp [go_sem], by simp [go_sem], by simp [go_sem], by simp [go_sem], by simp [go_sem], by simp [go_sem], by simp [go_sem], by simp [go_sem], by simp [go_sem], by simp [go_sem], by simp [go_sem]⟩
  have HBox : Hid (∀ W, Below w2.heap.size w2 W → ((W.cell? ⟨w.heap.size, 0, none⟩ = some (.string f.name) ∧ W.cell? ⟨w.heap.size, 3, none⟩ = some (.int .i64 kd) ∧ W.cell? ⟨w.heap.size, 4, none⟩ = some (.string fo) ∧ W.cell? ⟨w.heap.size, 5, none⟩ = some (.string na) ∧ W.cell? ⟨w.heap.size, 6, none⟩ = some (.slice p1 p2 p3)) ∧
      (W.cell? ⟨w.heap.size + 1, 0, none⟩ = some (.string ⟨#[]⟩) ∧ W.cell? ⟨w.heap.size + 1, 1, none⟩ = some (.slice none 0 0) ∧ W.cell? ⟨w.heap.size + 1, 2, none⟩ = some (.string ⟨#[]⟩)) ∧ (W.frozen? ⟨w.heap.size + 1, 0, none⟩ = false ∧ W.frozen? ⟨w.heap.size + 1, 1, none⟩ = false ∧ W.frozen? ⟨w.heap.size + 1, 2, none⟩ = false)) ∧ Below w.heap.size w W) := fun W hW => by
    have l0 : w.heap.size < w2.heap.size := by omega
    have l1 : w.heap.size + 1 < w2.heap.size := by omega
    exact ⟨⟨⟨(hW.cell (p := ⟨w.heap.size, 0, none⟩) l0).trans x0, (hW.cell (p := ⟨w.heap.size, 3, none⟩) l0).trans x3, (hW.cell (p := ⟨w.heap.size, 4, none⟩) l0).trans x4, (hW.cell (p := ⟨w.heap.size, 5, none⟩) l0).trans x5, (hW.cell (p := ⟨w.heap.size, 6, none⟩) l0).trans x6⟩,
      ⟨(hW.cell (p := ⟨w.heap.size + 1, 0, none⟩) l1).trans y0, (hW.cell (p := ⟨w.heap.size + 1, 1, none⟩) l1).trans y1, (hW.cell (p := ⟨w.heap.size + 1, 2, none⟩) l1).trans y2⟩, (hW.frozen (p := ⟨w.heap.size + 1, 0, none⟩) l1).trans z0, (hW.frozen (p := ⟨w.heap.size + 1, 1, none⟩) l1).trans z1, (hW.frozen (p := ⟨w.heap.size + 1, 2, none⟩) l1).trans z2⟩, hbel.trans (hW.mono hbel.size)⟩
  have HSet : Hid (∀ W v0 v1 v2, Below w.heap.size w W → Below w.heap.size w (((W.setCell ⟨w.heap.size + 1, 0, none⟩ v0).setCell ⟨w.heap.size + 1, 1, none⟩ v1).setCell ⟨w.heap.size + 1, 2, none⟩ v2)) := fun W v0 v1 v2 h =>
    ((h.setCell (by show w.heap.size ≤ w.heap.size + 1; omega) _).setCell (by show w.heap.size ≤ w.heap.size + 1; omega) _).setCell (by show w.heap.size ≤ w.heap.size + 1; omega) _
  have HTk : Hid (Calls Tryz.prog 46 #[.slice vp1 vp2 vp3, .func (.func 29) #[] #[.pointer (some ⟨mB, 0, none⟩), .pointer (some ⟨lB, 0, none⟩), .pointer (some ⟨fB, 0, none⟩)]] w2 (Takes w2 ρ f.params)) :=
    takes_any S ρ f.params _ mB lB fB w2 (fun b hb => Nat.lt_of_lt_of_le (hS b hb) hbel.size) (fdSl_keep (Keeps.below hbel hS) hps) h8 hty hρ (fun W t u hW => HF W t u (hbel.trans (hW.mono hbel.size)))
  have HSol : Hid (∀ W, Below w.heap.size w W → Calls Tryz.prog 29 #[.agg #[.int .i64 kd, .string fo, .string na, .slice p1 p2 p3], .pointer (some ⟨mB, 0, none⟩), .pointer (some ⟨lB, 0, none⟩), .pointer (some ⟨fB, 0, none⟩)] W (Tells W (ρ f.result))) := fun W hW =>
    HF W _ _ hW htr ⟨_, _, _, _, rfl, hcs.keep (Keeps.below hW hS)⟩
  have HWe := veil hwe
  have HCode : Hid (sigCode ρ f = if parErr ρ f.params ≠ 0 then parErr ρ f.params else (ρ f.result).2) := rfl
  have HGood : Hid (sigCode ρ f = 0 → sigOf ρ f = ⟨f.name, kindsOf ρ f.params, (ρ f.result).1⟩) := fun h => if_pos h
  have HBad : Hid (sigCode ρ f ≠ 0 → sigOf ρ f = ⟨noneS, [], noneS⟩) := fun h => if_neg h
  have HRs := veil (hρ f.result)
  have HNm := veil (clone_kind f.name)
  have hnm' : f.name.size ≤ maxLen := by unfold maxLen; omega
  have hnm2 : f.name.size ≤ 281474976710656 := by omega
  clear hwe hbel hps hcs hty htr hρ HF x0 x3 x4 x5 x6 y0 y1 y2 z0 z1 z2 hS
  unfold Takes at HTk
  generalize sigOf ρ f = g at *
  generalize sigCode ρ f = sc at *
  generalize kindsOf ρ f.params = ks at *
  generalize parErr ρ f.params = pe at *
  generalize ρ f.result = r at *
  generalize f.name = nm at *
  generalize f.var = vr at *
  obtain ⟨rs, rc⟩ := r
  go_enter Tryz.func28, Tryz.ntmps28
  go_wp2_with fail
  rw [HWe.out]
  refine HTk.out.mono ?_
  rintro e w3 ⟨xa, xn, xc, rfl, hks, hb3⟩
  obtain ⟨⟨⟨a0, a3, a4, a5, a6⟩, ⟨b0, b1, b2⟩, c0, c1, c2⟩, hbw3⟩ := HBox.out _ hb3
  have HB3 := veil hb3
  have HBw3 := veil hbw3
  have HKs := veil hks
  clear hb3 hbw3 hks HTk
  by_cases hp : pe = 0
  · subst hp
    go_wp2_with fail
    refine (HSol.out _ HBw3.out).mono ?_
    rintro e w4 ⟨rfl, hb4⟩
    have hb34 := hb4
    obtain ⟨⟨⟨d0, _⟩, ⟨e0, e1, e2⟩, f0, f1, f2⟩, hbw4⟩ := HBox.out _ (HB3.out.trans (hb4.mono HB3.out.size))
    have HB4 := veil (HB3.out.trans (hb4.mono HB3.out.size))
    have HBw4 := veil hbw4
    have HB34 := veil hb4
    clear hb4 hbw4 a0 a3 a4 a5 a6 b0 b1 b2 c0 c1 c2 hb34
    by_cases hc : rc = 0
    · subst hc
      have hsc : sc = 0 := by rw [HCode.out, if_neg (by simp)]
      subst hsc
      have HG := veil (HGood.out rfl)
      clear HGood HBad HCode
      go_wp2_with fail
      refine (HNm.out _ hnm2).mono ?_
      rintro e w5 ⟨rfl, hb5⟩
      obtain ⟨⟨_, ⟨g0, g1, g2⟩, h0, h1, h2⟩, hbw5⟩ := HBox.out _ (HB4.out.trans (hb5.mono HB4.out.size))
      have HFin : Hid (∀ W', (∀ b, w2.heap.size ≤ b → b < w5.heap.size → W'.heap[b]? = w5.heap[b]?) → w5.heap.size ≤ W'.heap.size → SgIs (fun b => w.heap.size ≤ b ∧ b < W'.heap.size) W' ⟨nm, ks, rs⟩ (.agg #[.string nm, .slice xa xn xc, .string rs])) := fun W' hk hsz =>
        ⟨_, rfl, hnm', HRs.out, strSl_keep (S := fun b => w2.heap.size ≤ b ∧ b < w3.heap.size) (S' := fun b => w.heap.size ≤ b ∧ b < W'.heap.size) ⟨fun b hb => by
          have hb35 := HB34.out.trans (hb5.mono HB34.out.size)
          rw [hk b hb.1 (Nat.lt_of_lt_of_le hb.2 hb35.size)]
          exact hb35.block b hb.2, fun b hb => by
          have hb35 := HB34.out.trans (hb5.mono HB34.out.size)
          have := hb35.size
          omega⟩ (HKs.out trivial)⟩
      have HBw5 := veil hbw5
      have hs5 : w.heap.size + 2 ≤ w5.heap.size := by have := (HB4.out.trans (hb5.mono HB4.out.size)).size; omega
      clear hb5 hbw5 e0 e1 e2 f0 f1 f2 d0
      go_wp2_with fail
      refine bodyPost_ret (v := .tuple #[.agg #[.string nm, .slice xa xn xc, .string rs], .int .i64 0]) (by simp [results, Tryz.results28, go_sem, g0, g1, g2]) rfl ?_
      refine ⟨xa, xn, xc, by rw [HG.out], ?_, HSet.out _ _ _ _ HBw5.out⟩
      rw [HG.out]
      exact HFin.out _ (fun b hb _ => by
        rw [Below.heap_setCell _ _ _ _ (by show b ≠ w.heap.size + 1; omega), Below.heap_setCell _ _ _ _ (by show b ≠ w.heap.size + 1; omega), Below.heap_setCell _ _ _ _ (by show b ≠ w.heap.size + 1; omega)]) (by simp)
    · have hc' : (rc != 0) = true := by simp [hc]
      have hsc : sc = rc := by rw [HCode.out, if_neg (by simp)]
      subst hsc
      have HG := veil (HBad.out hc)
      clear HGood HBad HCode hc HNm
      go_wp2_with fail
      refine bodyPost_ret (v := .tuple #[.agg #[.string ⟨#[]⟩, .slice none 0 0, .string ⟨#[]⟩], .int .i64 sc]) (by simp [results, Tryz.results28, go_sem, e0, e1, e2]) rfl ?_
      refine ⟨none, 0, 0, by rw [HG.out]; rfl, ?_, HSet.out _ _ _ _ HBw4.out⟩
      rw [HG.out]
      exact sgNil _ _
  · have hp' : (pe != 0) = true := by simp [hp]
    have hsc : sc = pe := by rw [HCode.out, if_pos hp]
    subst hsc
    have HG := veil (HBad.out hp)
    clear HGood HBad HCode hp HNm HSol HKs
    go_wp2_with fail
    refine bodyPost_ret (v := .tuple #[.agg #[.string ⟨#[]⟩, .slice none 0 0, .string ⟨#[]⟩], .int .i64 sc]) (by simp [results, Tryz.results28, go_sem, b0, b1, b2]) rfl ?_
    refine ⟨none, 0, 0, by rw [HG.out]; rfl, ?_, HSet.out _ _ _ _ HBw3.out⟩
    rw [HG.out]
    exact sgNil _ _

end Go.Proofs.YtkdailcadcfepafGreat
