/- What face.empty, importName, checkImport, inOrder at imports, CheckImports, and the reference's ImportsFault answer: the first thing that is wrong with a list of imports. -/
import Derived.Test.YtieoddnaknpmlaeFaceFault
namespace Go.Proofs.Ytieoddnaknpmlae
open Go.RowKit

def fcNone (f : Fc) : Bool := ((f.types.length : Int) == 0) && ((f.funcs.length : Int) == 0)
def imFault (i : Im) : Int := if identOk i.name = true then (if fcFault i.face = 0 then bad4 (i.there || fcNone i.face) else fcFault i.face) else 4
def imsFault (l : List Im) : Int := if 24 < (l.length : Int) then 1 else orderFault imFault Im.name l ⟨#[]⟩

theorem im_ident {i : Im} (h : imFault i = 0) : identOk i.name = true := by
  unfold imFault at h
  by_cases hi : identOk i.name = true
  · exact hi
  · rw [if_neg hi] at h
    cases h

def ImIs (S : Nat → Prop) (w : World) (i : Im) (v : Value) : Prop := ∃ vt vf, v = .agg #[.string i.name, .bool i.there, vt, vf] ∧ i.name.size ≤ maxLen ∧ FcCs S w i.face vt vf
theorem ImIs.keep {S S' : Nat → Prop} {w w' : World} (hk : Keeps S S' w w') {i : Im} {v : Value} (h : ImIs S w i v) : ImIs S' w' i v := by
  obtain ⟨vt, vf, rfl, h1, h2⟩ := h
  exact ⟨vt, vf, rfl, h1, h2.keep hk⟩
theorem imIs_at {S : Nat → Prop} {w : World} {i : Im} {b o : Nat} (h : ImAt S w i b o) : ∃ a n cap a2 n2 cap2, w.cell? ⟨b, o, none⟩ = some (.string i.name) ∧ w.cell? ⟨b, o + 1, none⟩ = some (.bool i.there) ∧ w.cell? ⟨b, o + 2, none⟩ = some (.slice a n cap) ∧ w.cell? ⟨b, o + 3, none⟩ = some (.slice a2 n2 cap2) ∧ ImIs S w i (.agg #[.string i.name, .bool i.there, .slice a n cap, .slice a2 n2 cap2]) := by
  obtain ⟨⟨h0, z0⟩, h1, vt, vf, h2, h3, h4⟩ := h
  obtain ⟨a, n, cap, rfl⟩ := h4.1.slice
  obtain ⟨a2, n2, cap2, rfl⟩ := h4.2.slice
  exact ⟨a, n, cap, a2, n2, cap2, h0, h1, h2, h3, _, _, rfl, z0, h4⟩

theorem importName_any (x : ByteArray) (y : Bool) (a : Option Addr) (n cap : Nat) (a2 : Option Addr) (n2 cap2 : Nat) (w : World) : Calls Try.prog 42 #[.agg #[.string x, .bool y, .slice a n cap, .slice a2 n2 cap2]] w fun e w' => e = .returned (.string x) ∧ Below w.heap.size w w' := by
  go_enter Try.func42, Try.ntmps42
  go_wp2
  go_ret
  exact ⟨rfl, (Below.refl _ _).alloc (Nat.le_refl _) _⟩

theorem empty_any (f : Fc) (a : Option Addr) (cap : Nat) (a2 : Option Addr) (cap2 : Nat) (w : World) : Calls Try.prog 63 #[.agg #[.slice a f.types.length cap, .slice a2 f.funcs.length cap2]] w fun e w' => e = .returned (.bool (fcNone f)) ∧ Below w.heap.size w w' := by
  have HE : Hid (fcNone f = (((f.types.length : Int) == 0) && ((f.funcs.length : Int) == 0))) := rfl
  have HA : Hid (∀ o, Below w.heap.size w (w.alloc o)) := fun o => (Below.refl _ _).alloc (Nat.le_refl _) _
  generalize fcNone f = r at *
  generalize f.types.length = n at *
  generalize f.funcs.length = m at *
  cases hn : ((n : Int) == 0) with
  | false =>
    have HR : Hid (r = false) := by show _ = _; rw [HE.out, hn]; rfl
    clear HE
    go_enter Try.func63, Try.ntmps63
    go_wp2
    go_ret
    exact ⟨by rw [HR.out]; rfl, HA.out _⟩
  | true =>
    cases hm : ((m : Int) == 0) with
    | false =>
      have HR : Hid (r = false) := by show _ = _; rw [HE.out, hn, hm]; rfl
      clear HE
      go_enter Try.func63, Try.ntmps63
      go_wp2
      go_ret
      exact ⟨by rw [HR.out]; rfl, HA.out _⟩
    | true =>
      have HR : Hid (r = true) := by show _ = _; rw [HE.out, hn, hm]; rfl
      clear HE
      go_enter Try.func63, Try.ntmps63
      go_wp2
      go_ret
      exact ⟨by rw [HR.out]; rfl, HA.out _⟩

set_option maxHeartbeats 2000000 in
theorem checkImport_name (S : Nat → Prop) (i : Im) (v : Value) (w : World) (hS : ∀ b, S b → b < w.heap.size) (hv : ImIs S w i v) (hi : identOk i.name = false) :
    Calls Try.prog 43 #[v] w fun e w' => e = .returned (.int .i64 (4)) ∧ Below w.heap.size w w' := by
  obtain ⟨vt, vf, rfl, hz, hcs⟩ := hv
  have HI : Hid (∀ W, Calls Try.prog 62 #[.string i.name] W fun e w' => e = .returned (.bool (identOk i.name)) ∧ Below W.heap.size W w') := fun W => ident_any _ hz W
  have HF : Hid (∀ W, Below w.heap.size w W → Calls Try.prog 37 #[.agg #[vt, vf]] W fun e w' => e = .returned (.int .i64 (fcFault i.face)) ∧ Below W.heap.size W w') := fun W hW =>
    checkFace_any S _ _ W (fun b hb => Nat.lt_of_lt_of_le (hS b hb) hW.size) ⟨_, _, rfl, hcs.keep (Keeps.below hW hS)⟩
  obtain ⟨a, cap, rfl⟩ := hcs.1.is
  obtain ⟨a2, cap2, rfl⟩ := hcs.2.is
  have HM : Hid (∀ W, Calls Try.prog 63 #[.agg #[.slice a i.face.types.length cap, .slice a2 i.face.funcs.length cap2]] W fun e w' => e = .returned (.bool (fcNone i.face)) ∧ Below W.heap.size W w') := fun W => empty_any _ _ _ _ _ W
  clear hcs hz hS
  generalize fcFault i.face = q at *
  generalize fcNone i.face = em at *
  generalize i.face.types.length = n at *
  generalize i.face.funcs.length = m at *
  generalize i.there = th at *
  generalize identOk i.name = idn at *
  generalize i.name = x at *
  obtain ⟨w2, hwe, hs2, p1, p2, p3, hbel⟩ : ∃ w2, w.alloc (.cells #[.string x, .bool th, .slice a n cap, .slice a2 m cap2] 76) = w2 ∧ w2.heap.size = w.heap.size + 1 ∧ w2.cell? ⟨w.heap.size, 1, none⟩ = some (.bool th) ∧ w2.cell? ⟨w.heap.size, 2, none⟩ = some (.slice a n cap) ∧ w2.cell? ⟨w.heap.size, 3, none⟩ = some (.slice a2 m cap2) ∧ Below w.heap.size w w2 :=
    ⟨_, rfl, by simp, by simp [go_sem], by simp [go_sem], by simp [go_sem], (Below.refl _ _).alloc (Nat.le_refl _) _⟩
  have HCell : Hid (∀ W, Below w2.heap.size w2 W → (W.cell? ⟨w.heap.size, 1, none⟩ = some (.bool th) ∧ W.cell? ⟨w.heap.size, 2, none⟩ = some (.slice a n cap) ∧ W.cell? ⟨w.heap.size, 3, none⟩ = some (.slice a2 m cap2)) ∧ Below w.heap.size w W) := fun W h =>
    ⟨⟨(h.cell (p := ⟨w.heap.size, 1, none⟩) (by show w.heap.size < _; omega)).trans p1, (h.cell (p := ⟨w.heap.size, 2, none⟩) (by show w.heap.size < _; omega)).trans p2, (h.cell (p := ⟨w.heap.size, 3, none⟩) (by show w.heap.size < _; omega)).trans p3⟩, hbel.trans (h.mono hbel.size)⟩
  have HWe := veil hwe
  clear hwe hbel p1 p2 p3
  subst hi
  go_enter Try.func43, Try.ntmps43
  go_wp2_with fail
  rw [HWe.out]
  refine (HI.out _).mono ?_
  rintro e w3 ⟨rfl, hb3⟩
  obtain ⟨⟨c1, c2, c3⟩, hb⟩ := HCell.out _ hb3
  have HB3 := veil hb
  have HBb := veil hb3
  clear hb3 hb
  go_wp2_with fail
  go_ret
  exact ⟨rfl, HB3.out⟩

set_option maxHeartbeats 2000000 in
theorem checkImport_face (S : Nat → Prop) (i : Im) (v : Value) (w : World) (hS : ∀ b, S b → b < w.heap.size) (hv : ImIs S w i v) (hi : identOk i.name = true) (hq : fcFault i.face ≠ 0) :
    Calls Try.prog 43 #[v] w fun e w' => e = .returned (.int .i64 (fcFault i.face)) ∧ Below w.heap.size w w' := by
  obtain ⟨vt, vf, rfl, hz, hcs⟩ := hv
  have HI : Hid (∀ W, Calls Try.prog 62 #[.string i.name] W fun e w' => e = .returned (.bool (identOk i.name)) ∧ Below W.heap.size W w') := fun W => ident_any _ hz W
  have HF : Hid (∀ W, Below w.heap.size w W → Calls Try.prog 37 #[.agg #[vt, vf]] W fun e w' => e = .returned (.int .i64 (fcFault i.face)) ∧ Below W.heap.size W w') := fun W hW =>
    checkFace_any S _ _ W (fun b hb => Nat.lt_of_lt_of_le (hS b hb) hW.size) ⟨_, _, rfl, hcs.keep (Keeps.below hW hS)⟩
  obtain ⟨a, cap, rfl⟩ := hcs.1.is
  obtain ⟨a2, cap2, rfl⟩ := hcs.2.is
  have HM : Hid (∀ W, Calls Try.prog 63 #[.agg #[.slice a i.face.types.length cap, .slice a2 i.face.funcs.length cap2]] W fun e w' => e = .returned (.bool (fcNone i.face)) ∧ Below W.heap.size W w') := fun W => empty_any _ _ _ _ _ W
  clear hcs hz hS
  generalize fcFault i.face = q at *
  generalize fcNone i.face = em at *
  generalize i.face.types.length = n at *
  generalize i.face.funcs.length = m at *
  generalize i.there = th at *
  generalize identOk i.name = idn at *
  generalize i.name = x at *
  obtain ⟨w2, hwe, hs2, p1, p2, p3, hbel⟩ : ∃ w2, w.alloc (.cells #[.string x, .bool th, .slice a n cap, .slice a2 m cap2] 76) = w2 ∧ w2.heap.size = w.heap.size + 1 ∧ w2.cell? ⟨w.heap.size, 1, none⟩ = some (.bool th) ∧ w2.cell? ⟨w.heap.size, 2, none⟩ = some (.slice a n cap) ∧ w2.cell? ⟨w.heap.size, 3, none⟩ = some (.slice a2 m cap2) ∧ Below w.heap.size w w2 :=
    ⟨_, rfl, by simp, by simp [go_sem], by simp [go_sem], by simp [go_sem], (Below.refl _ _).alloc (Nat.le_refl _) _⟩
  have HCell : Hid (∀ W, Below w2.heap.size w2 W → (W.cell? ⟨w.heap.size, 1, none⟩ = some (.bool th) ∧ W.cell? ⟨w.heap.size, 2, none⟩ = some (.slice a n cap) ∧ W.cell? ⟨w.heap.size, 3, none⟩ = some (.slice a2 m cap2)) ∧ Below w.heap.size w W) := fun W h =>
    ⟨⟨(h.cell (p := ⟨w.heap.size, 1, none⟩) (by show w.heap.size < _; omega)).trans p1, (h.cell (p := ⟨w.heap.size, 2, none⟩) (by show w.heap.size < _; omega)).trans p2, (h.cell (p := ⟨w.heap.size, 3, none⟩) (by show w.heap.size < _; omega)).trans p3⟩, hbel.trans (h.mono hbel.size)⟩
  have HWe := veil hwe
  clear hwe hbel p1 p2 p3
  subst hi
  have hq' : (q != 0) = true := by simpa using hq
  clear hq
  go_enter Try.func43, Try.ntmps43
  go_wp2_with fail
  rw [HWe.out]
  refine (HI.out _).mono ?_
  rintro e w3 ⟨rfl, hb3⟩
  obtain ⟨⟨c1, c2, c3⟩, hb⟩ := HCell.out _ hb3
  have HB3 := veil hb
  have HBb := veil hb3
  clear hb3 hb
  go_wp2_with fail
  refine (HF.out _ HB3.out).mono ?_
  rintro e w4 ⟨rfl, hb4⟩
  obtain ⟨⟨c1', c2', c3'⟩, hb⟩ := HCell.out _ (HBb.out.trans (hb4.mono HBb.out.size))
  have HB4 := veil hb
  clear hb4 hb c1 c2 c3
  go_wp2_with fail
  go_ret
  exact ⟨rfl, HB4.out⟩

set_option maxHeartbeats 2000000 in
theorem checkImport_there (S : Nat → Prop) (i : Im) (v : Value) (w : World) (hS : ∀ b, S b → b < w.heap.size) (hv : ImIs S w i v) (hi : identOk i.name = true) (hq : fcFault i.face = 0) (ht : i.there = true) :
    Calls Try.prog 43 #[v] w fun e w' => e = .returned (.int .i64 (0)) ∧ Below w.heap.size w w' := by
  obtain ⟨vt, vf, rfl, hz, hcs⟩ := hv
  have HI : Hid (∀ W, Calls Try.prog 62 #[.string i.name] W fun e w' => e = .returned (.bool (identOk i.name)) ∧ Below W.heap.size W w') := fun W => ident_any _ hz W
  have HF : Hid (∀ W, Below w.heap.size w W → Calls Try.prog 37 #[.agg #[vt, vf]] W fun e w' => e = .returned (.int .i64 (fcFault i.face)) ∧ Below W.heap.size W w') := fun W hW =>
    checkFace_any S _ _ W (fun b hb => Nat.lt_of_lt_of_le (hS b hb) hW.size) ⟨_, _, rfl, hcs.keep (Keeps.below hW hS)⟩
  obtain ⟨a, cap, rfl⟩ := hcs.1.is
  obtain ⟨a2, cap2, rfl⟩ := hcs.2.is
  have HM : Hid (∀ W, Calls Try.prog 63 #[.agg #[.slice a i.face.types.length cap, .slice a2 i.face.funcs.length cap2]] W fun e w' => e = .returned (.bool (fcNone i.face)) ∧ Below W.heap.size W w') := fun W => empty_any _ _ _ _ _ W
  clear hcs hz hS
  generalize fcFault i.face = q at *
  generalize fcNone i.face = em at *
  generalize i.face.types.length = n at *
  generalize i.face.funcs.length = m at *
  generalize i.there = th at *
  generalize identOk i.name = idn at *
  generalize i.name = x at *
  obtain ⟨w2, hwe, hs2, p1, p2, p3, hbel⟩ : ∃ w2, w.alloc (.cells #[.string x, .bool th, .slice a n cap, .slice a2 m cap2] 76) = w2 ∧ w2.heap.size = w.heap.size + 1 ∧ w2.cell? ⟨w.heap.size, 1, none⟩ = some (.bool th) ∧ w2.cell? ⟨w.heap.size, 2, none⟩ = some (.slice a n cap) ∧ w2.cell? ⟨w.heap.size, 3, none⟩ = some (.slice a2 m cap2) ∧ Below w.heap.size w w2 :=
    ⟨_, rfl, by simp, by simp [go_sem], by simp [go_sem], by simp [go_sem], (Below.refl _ _).alloc (Nat.le_refl _) _⟩
  have HCell : Hid (∀ W, Below w2.heap.size w2 W → (W.cell? ⟨w.heap.size, 1, none⟩ = some (.bool th) ∧ W.cell? ⟨w.heap.size, 2, none⟩ = some (.slice a n cap) ∧ W.cell? ⟨w.heap.size, 3, none⟩ = some (.slice a2 m cap2)) ∧ Below w.heap.size w W) := fun W h =>
    ⟨⟨(h.cell (p := ⟨w.heap.size, 1, none⟩) (by show w.heap.size < _; omega)).trans p1, (h.cell (p := ⟨w.heap.size, 2, none⟩) (by show w.heap.size < _; omega)).trans p2, (h.cell (p := ⟨w.heap.size, 3, none⟩) (by show w.heap.size < _; omega)).trans p3⟩, hbel.trans (h.mono hbel.size)⟩
  have HWe := veil hwe
  clear hwe hbel p1 p2 p3
  subst hi hq ht
  go_enter Try.func43, Try.ntmps43
  go_wp2_with fail
  rw [HWe.out]
  refine (HI.out _).mono ?_
  rintro e w3 ⟨rfl, hb3⟩
  obtain ⟨⟨c1, c2, c3⟩, hb⟩ := HCell.out _ hb3
  have HB3 := veil hb
  have HBb := veil hb3
  clear hb3 hb
  go_wp2_with fail
  refine (HF.out _ HB3.out).mono ?_
  rintro e w4 ⟨rfl, hb4⟩
  obtain ⟨⟨c1', c2', c3'⟩, hb⟩ := HCell.out _ (HBb.out.trans (hb4.mono HBb.out.size))
  have HB4 := veil hb
  clear hb4 hb c1 c2 c3
  go_wp2_with fail
  go_ret
  exact ⟨rfl, HB4.out⟩

set_option maxHeartbeats 2000000 in
theorem checkImport_none (S : Nat → Prop) (i : Im) (v : Value) (w : World) (hS : ∀ b, S b → b < w.heap.size) (hv : ImIs S w i v) (hi : identOk i.name = true) (hq : fcFault i.face = 0) (ht : i.there = false) (hn : fcNone i.face = true) :
    Calls Try.prog 43 #[v] w fun e w' => e = .returned (.int .i64 (0)) ∧ Below w.heap.size w w' := by
  obtain ⟨vt, vf, rfl, hz, hcs⟩ := hv
  have HI : Hid (∀ W, Calls Try.prog 62 #[.string i.name] W fun e w' => e = .returned (.bool (identOk i.name)) ∧ Below W.heap.size W w') := fun W => ident_any _ hz W
  have HF : Hid (∀ W, Below w.heap.size w W → Calls Try.prog 37 #[.agg #[vt, vf]] W fun e w' => e = .returned (.int .i64 (fcFault i.face)) ∧ Below W.heap.size W w') := fun W hW =>
    checkFace_any S _ _ W (fun b hb => Nat.lt_of_lt_of_le (hS b hb) hW.size) ⟨_, _, rfl, hcs.keep (Keeps.below hW hS)⟩
  obtain ⟨a, cap, rfl⟩ := hcs.1.is
  obtain ⟨a2, cap2, rfl⟩ := hcs.2.is
  have HM : Hid (∀ W, Calls Try.prog 63 #[.agg #[.slice a i.face.types.length cap, .slice a2 i.face.funcs.length cap2]] W fun e w' => e = .returned (.bool (fcNone i.face)) ∧ Below W.heap.size W w') := fun W => empty_any _ _ _ _ _ W
  clear hcs hz hS
  generalize fcFault i.face = q at *
  generalize fcNone i.face = em at *
  generalize i.face.types.length = n at *
  generalize i.face.funcs.length = m at *
  generalize i.there = th at *
  generalize identOk i.name = idn at *
  generalize i.name = x at *
  obtain ⟨w2, hwe, hs2, p1, p2, p3, hbel⟩ : ∃ w2, w.alloc (.cells #[.string x, .bool th, .slice a n cap, .slice a2 m cap2] 76) = w2 ∧ w2.heap.size = w.heap.size + 1 ∧ w2.cell? ⟨w.heap.size, 1, none⟩ = some (.bool th) ∧ w2.cell? ⟨w.heap.size, 2, none⟩ = some (.slice a n cap) ∧ w2.cell? ⟨w.heap.size, 3, none⟩ = some (.slice a2 m cap2) ∧ Below w.heap.size w w2 :=
    ⟨_, rfl, by simp, by simp [go_sem], by simp [go_sem], by simp [go_sem], (Below.refl _ _).alloc (Nat.le_refl _) _⟩
  have HCell : Hid (∀ W, Below w2.heap.size w2 W → (W.cell? ⟨w.heap.size, 1, none⟩ = some (.bool th) ∧ W.cell? ⟨w.heap.size, 2, none⟩ = some (.slice a n cap) ∧ W.cell? ⟨w.heap.size, 3, none⟩ = some (.slice a2 m cap2)) ∧ Below w.heap.size w W) := fun W h =>
    ⟨⟨(h.cell (p := ⟨w.heap.size, 1, none⟩) (by show w.heap.size < _; omega)).trans p1, (h.cell (p := ⟨w.heap.size, 2, none⟩) (by show w.heap.size < _; omega)).trans p2, (h.cell (p := ⟨w.heap.size, 3, none⟩) (by show w.heap.size < _; omega)).trans p3⟩, hbel.trans (h.mono hbel.size)⟩
  have HWe := veil hwe
  clear hwe hbel p1 p2 p3
  subst hi hq ht hn
  go_enter Try.func43, Try.ntmps43
  go_wp2_with fail
  rw [HWe.out]
  refine (HI.out _).mono ?_
  rintro e w3 ⟨rfl, hb3⟩
  obtain ⟨⟨c1, c2, c3⟩, hb⟩ := HCell.out _ hb3
  have HB3 := veil hb
  have HBb := veil hb3
  clear hb3 hb
  go_wp2_with fail
  refine (HF.out _ HB3.out).mono ?_
  rintro e w4 ⟨rfl, hb4⟩
  obtain ⟨⟨c1', c2', c3'⟩, hb⟩ := HCell.out _ (HBb.out.trans (hb4.mono HBb.out.size))
  have HB4 := veil hb
  clear hb4 hb c1 c2 c3
  go_wp2_with fail
  refine (HM.out _).mono ?_
  rintro e w5 ⟨rfl, hb5⟩
  have HB5 := veil (HB4.out.trans (hb5.mono HB4.out.size))
  clear hb5
  go_wp2_with fail
  go_ret
  exact ⟨rfl, HB5.out⟩

set_option maxHeartbeats 2000000 in
theorem checkImport_some (S : Nat → Prop) (i : Im) (v : Value) (w : World) (hS : ∀ b, S b → b < w.heap.size) (hv : ImIs S w i v) (hi : identOk i.name = true) (hq : fcFault i.face = 0) (ht : i.there = false) (hn : fcNone i.face = false) :
    Calls Try.prog 43 #[v] w fun e w' => e = .returned (.int .i64 (4)) ∧ Below w.heap.size w w' := by
  obtain ⟨vt, vf, rfl, hz, hcs⟩ := hv
  have HI : Hid (∀ W, Calls Try.prog 62 #[.string i.name] W fun e w' => e = .returned (.bool (identOk i.name)) ∧ Below W.heap.size W w') := fun W => ident_any _ hz W
  have HF : Hid (∀ W, Below w.heap.size w W → Calls Try.prog 37 #[.agg #[vt, vf]] W fun e w' => e = .returned (.int .i64 (fcFault i.face)) ∧ Below W.heap.size W w') := fun W hW =>
    checkFace_any S _ _ W (fun b hb => Nat.lt_of_lt_of_le (hS b hb) hW.size) ⟨_, _, rfl, hcs.keep (Keeps.below hW hS)⟩
  obtain ⟨a, cap, rfl⟩ := hcs.1.is
  obtain ⟨a2, cap2, rfl⟩ := hcs.2.is
  have HM : Hid (∀ W, Calls Try.prog 63 #[.agg #[.slice a i.face.types.length cap, .slice a2 i.face.funcs.length cap2]] W fun e w' => e = .returned (.bool (fcNone i.face)) ∧ Below W.heap.size W w') := fun W => empty_any _ _ _ _ _ W
  clear hcs hz hS
  generalize fcFault i.face = q at *
  generalize fcNone i.face = em at *
  generalize i.face.types.length = n at *
  generalize i.face.funcs.length = m at *
  generalize i.there = th at *
  generalize identOk i.name = idn at *
  generalize i.name = x at *
  obtain ⟨w2, hwe, hs2, p1, p2, p3, hbel⟩ : ∃ w2, w.alloc (.cells #[.string x, .bool th, .slice a n cap, .slice a2 m cap2] 76) = w2 ∧ w2.heap.size = w.heap.size + 1 ∧ w2.cell? ⟨w.heap.size, 1, none⟩ = some (.bool th) ∧ w2.cell? ⟨w.heap.size, 2, none⟩ = some (.slice a n cap) ∧ w2.cell? ⟨w.heap.size, 3, none⟩ = some (.slice a2 m cap2) ∧ Below w.heap.size w w2 :=
    ⟨_, rfl, by simp, by simp [go_sem], by simp [go_sem], by simp [go_sem], (Below.refl _ _).alloc (Nat.le_refl _) _⟩
  have HCell : Hid (∀ W, Below w2.heap.size w2 W → (W.cell? ⟨w.heap.size, 1, none⟩ = some (.bool th) ∧ W.cell? ⟨w.heap.size, 2, none⟩ = some (.slice a n cap) ∧ W.cell? ⟨w.heap.size, 3, none⟩ = some (.slice a2 m cap2)) ∧ Below w.heap.size w W) := fun W h =>
    ⟨⟨(h.cell (p := ⟨w.heap.size, 1, none⟩) (by show w.heap.size < _; omega)).trans p1, (h.cell (p := ⟨w.heap.size, 2, none⟩) (by show w.heap.size < _; omega)).trans p2, (h.cell (p := ⟨w.heap.size, 3, none⟩) (by show w.heap.size < _; omega)).trans p3⟩, hbel.trans (h.mono hbel.size)⟩
  have HWe := veil hwe
  clear hwe hbel p1 p2 p3
  subst hi hq ht hn
  go_enter Try.func43, Try.ntmps43
  go_wp2_with fail
  rw [HWe.out]
  refine (HI.out _).mono ?_
  rintro e w3 ⟨rfl, hb3⟩
  obtain ⟨⟨c1, c2, c3⟩, hb⟩ := HCell.out _ hb3
  have HB3 := veil hb
  have HBb := veil hb3
  clear hb3 hb
  go_wp2_with fail
  refine (HF.out _ HB3.out).mono ?_
  rintro e w4 ⟨rfl, hb4⟩
  obtain ⟨⟨c1', c2', c3'⟩, hb⟩ := HCell.out _ (HBb.out.trans (hb4.mono HBb.out.size))
  have HB4 := veil hb
  clear hb4 hb c1 c2 c3
  go_wp2_with fail
  refine (HM.out _).mono ?_
  rintro e w5 ⟨rfl, hb5⟩
  have HB5 := veil (HB4.out.trans (hb5.mono HB4.out.size))
  clear hb5
  go_wp2_with fail
  go_ret
  exact ⟨rfl, HB5.out⟩

theorem checkImport_any (S : Nat → Prop) (i : Im) (v : Value) (w : World) (hS : ∀ b, S b → b < w.heap.size) (hv : ImIs S w i v) :
    Calls Try.prog 43 #[v] w fun e w' => e = .returned (.int .i64 (imFault i)) ∧ Below w.heap.size w w' := by
  unfold imFault
  cases hi : identOk i.name with
  | false =>
    rw [if_neg (by simp)]
    exact checkImport_name S i v w hS hv hi
  | true =>
    rw [if_pos rfl]
    by_cases hq : fcFault i.face = 0
    · rw [if_pos hq]
      cases ht : i.there with
      | true => exact checkImport_there S i v w hS hv hi hq ht
      | false =>
        cases hn : fcNone i.face with
        | true => exact checkImport_none S i v w hS hv hi hq ht hn
        | false => exact checkImport_some S i v w hS hv hi hq ht hn
    · rw [if_neg hq]
      exact checkImport_face S i v w hS hv hi hq

set_option maxHeartbeats 4000000 in
theorem inOrder_im (S : Nat → Prop) (l : List Im) (v : Value) (w : World) (hS : ∀ b, S b → b < w.heap.size) (hv : SlAt S (ImAt S w) 4 l v) :
    Calls Try.prog 41 #[v, .func (.func 42) #[] #[], .func (.func 43) #[] #[]] w fun e w' => e = .returned (.int .i64 (orderFault imFault Im.name l ⟨#[]⟩)) ∧ Below w.heap.size w w' := by
  have HV := veil hv
  have hlen := hv.len
  unfold maxLen at hlen
  obtain ⟨a, cap, rfl⟩ := hv.is
  have HA := veil (Ahead.start w)
  clear hv
  go_enter Try.func41, Try.ntmps41
  go_wp2_with fail
  refine (rising_any _).mono ?_
  rintro e w1 ⟨rfl, rfl⟩
  go_wp2_with fail
  go_loopw [14] (fun i wr => ∃ (j : Nat) (p : ByteArray), j ≤ l.length ∧ i = .int .i64 j ∧ orderFault imFault Im.name l ⟨#[]⟩ = orderFault imFault Im.name (l.drop j) p ∧ Ahead w p wr) (fun i _ => l.length - (intOf i).toNat)
  case atStart => exact ⟨0, _, Nat.zero_le _, rfl, rfl, HA.out⟩
  case round =>
    obtain ⟨j, p, hj, rfl, hq, hah⟩ := hrel
    have HQ := veil hq
    clear hq HA
    by_cases hlt : j < l.length
    · have hlt' : (j : Int) < (l.length : Int) := by omega
      obtain ⟨_, b, off, rfl, hb, hat⟩ := HV.out.at hlt
      have hbk := hS b hb
      obtain ⟨p1, p2, p3, q1, q2, q3, a0, a1, a2, a3, him⟩ := imIs_at hat
      have d0 := (hah.1.cell (p := ⟨b, off + j * 4, none⟩) hbk).trans a0
      have d1 := (hah.1.cell (p := ⟨b, off + j * 4 + 1, none⟩) hbk).trans a1
      have d2 := (hah.1.cell (p := ⟨b, off + j * 4 + 2, none⟩) hbk).trans a2
      have d3 := (hah.1.cell (p := ⟨b, off + j * 4 + 3, none⟩) hbk).trans a3
      have hbr : b < wr.heap.size := Nat.lt_of_lt_of_le hbk hah.1.size
      have HC : Hid (∀ W, Below wr.heap.size wr W → Calls Try.prog 43 #[.agg #[.string l[j].name, .bool l[j].there, .slice p1 p2 p3, .slice q1 q2 q3]] W fun e w' => e = .returned (.int .i64 (imFault l[j])) ∧ Below W.heap.size W w') := fun W hW => by
        have hbW := hah.1.trans (hW.mono hah.1.size)
        exact checkImport_any S _ _ W (fun b hb => Nat.lt_of_lt_of_le (hS b hb) hbW.size) (him.keep (Keeps.below hbW hS))
      have HAl : Hid (∀ o, Below wr.heap.size wr (wr.alloc o)) := fun o => (Below.refl _ _).alloc (Nat.le_refl _) _
      have HBad := veil (@order_bad _ imFault Im.name l j p hlt)
      have HLow := veil (@order_low _ imFault Im.name l j p hlt)
      have HOn := veil (@order_on _ imFault Im.name l j p hlt)
      have HAh : Hid (∀ o W, Below (wr.alloc o).heap.size (wr.alloc o) W → Ahead w p W) := fun o W hW => (hah.later ((Below.refl _ _).alloc (Nat.le_refl _) o)).later hW
      have HCe : Hid (∀ x y W, Below (wr.alloc (.cells #[.string x, .bool y, .slice p1 p2 p3, .slice q1 q2 q3] 76)).heap.size (wr.alloc (.cells #[.string x, .bool y, .slice p1 p2 p3, .slice q1 q2 q3] 76)) W → W.cell? ⟨wr.heap.size, 0, none⟩ = some (.string x) ∧ W.cell? ⟨wr.heap.size, 1, none⟩ = some (.bool y) ∧ W.cell? ⟨wr.heap.size, 2, none⟩ = some (.slice p1 p2 p3) ∧ W.cell? ⟨wr.heap.size, 3, none⟩ = some (.slice q1 q2 q3)) := fun x y W hW =>
        ⟨(hW.cell (p := ⟨wr.heap.size, 0, none⟩) (by simp)).trans (by simp [go_sem]), (hW.cell (p := ⟨wr.heap.size, 1, none⟩) (by simp)).trans (by simp [go_sem]), (hW.cell (p := ⟨wr.heap.size, 2, none⟩) (by simp)).trans (by simp [go_sem]), (hW.cell (p := ⟨wr.heap.size, 3, none⟩) (by simp)).trans (by simp [go_sem])⟩
      clear a0 a1 a2 a3 him hat HV hah
      generalize imFault l[j] = n at *
      generalize l[j].name = x at *
      generalize l[j].there = y at *
      by_cases hn : n = 0
      · subst hn
        go_wp2_with fail
        refine (HC.out _ (HAl.out _)).mono ?_
        rintro e w1 ⟨rfl, hb1⟩
        obtain ⟨e0, e1, e2, e3⟩ := HCe.out _ _ _ hb1
        have ha1 := HAh.out _ _ hb1
        have HA1 := veil ha1
        clear hb1 ha1
        go_wp2_with fail
        refine (importName_any x y _ _ _ _ _ _ _).mono ?_
        rintro e w2 ⟨rfl, hb2⟩
        have ha2 := HA1.out.later hb2
        have HA2 := veil ha2
        obtain ⟨-, hsz2, hc2, hf2⟩ := ha2
        clear hb2
        cases hg : gtB x p with
        | true =>
          have HOn' := veil (HOn.out trivial hg)
          go_wp2_with fail
          refine (risingOf_any w.heap.size x p _ hc2 hf2).mono ?_
          rintro e w3 ⟨rfl, rfl⟩
          rw [hg]
          go_wp2_with fail
          exact ⟨⟨j + 1, x, by omega, by go_num, HQ.out.trans HOn'.out, HA2.out.put x⟩, by simp [intOf]; omega⟩
        | false =>
          have HLow' := veil (HLow.out trivial hg)
          have HF : Hid (∀ s, Below w.heap.size w (w2.setCell ⟨w.heap.size, 0, none⟩ (.string s))) := fun s => (HA2.out.put s).1
          go_wp2_with fail
          refine (risingOf_any w.heap.size x p _ hc2 hf2).mono ?_
          rintro e w3 ⟨rfl, rfl⟩
          rw [hg]
          go_wp2_with fail
          go_ret
          exact ⟨by rw [HQ.out, HLow'.out]; rfl, HF.out _⟩
      · have hn' : (n != 0) = true := by simpa using hn
        have HBad' := veil (HBad.out hn)
        clear hn
        go_wp2_with fail
        refine (HC.out _ (HAl.out _)).mono ?_
        rintro e w1 ⟨rfl, hb1⟩
        have HB1 := veil (HAh.out _ _ hb1).1
        clear hb1
        go_wp2_with fail
        go_ret
        exact ⟨by rw [HQ.out, HBad'.out]; rfl, HB1.out⟩
    · have hnl : ¬ (j : Int) < (l.length : Int) := by omega
      have HE : Hid (orderFault imFault Im.name l ⟨#[]⟩ = 0) := HQ.out.trans (order_end (by omega))
      have HB := veil hah.1
      clear HV hah HQ
      go_wp2_with fail
      go_ret
      exact ⟨by rw [HE.out]; rfl, HB.out⟩

end Go.Proofs.Ytieoddnaknpmlae
