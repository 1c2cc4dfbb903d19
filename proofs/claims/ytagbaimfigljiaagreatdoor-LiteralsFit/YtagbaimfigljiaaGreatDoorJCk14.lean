import Derived.Test.YtagbaimfigljiaaGreatDoorJCk13
import Derived.Test.YtagbaimfigljiaaGreatDoorJCk12
namespace Go.Proofs.YtagbaimfigljiaaGreatDoor
open Go.RowKit
set_option maxRecDepth 100000

def fcNone (f : Fc) : Bool := ((f.types.length : Int) == 0) && ((f.funcs.length : Int) == 0)
def imFault (i : Im) : Int := if identOk i.name = true then (if fcFault i.face = 0 then bad4 (i.there || fcNone i.face) else fcFault i.face) else 4
def imsFault (l : List Im) : Int := if 24 < (l.length : Int) then 1 else orderFault imFault Im.name l ⟨#[]⟩

def ImIs (S : Nat → Prop) (w : World) (i : Im) (v : Value) : Prop := ∃ vt vf, v = .agg #[.string i.name, .bool i.there, vt, vf] ∧ i.name.size ≤ maxLen ∧ FcCs S w i.face vt vf
theorem ImIs.keep {S S' : Nat → Prop} {w w' : World} (hk : Keeps S S' w w') {i : Im} {v : Value} (h : ImIs S w i v) : ImIs S' w' i v := by
  obtain ⟨vt, vf, rfl, h1, h2⟩ := h
  exact ⟨vt, vf, rfl, h1, h2.keep hk⟩
theorem imIs_at {S : Nat → Prop} {w : World} {i : Im} {b o : Nat} (h : ImAt S w i b o) : ∃ a n cap a2 n2 cap2, w.cell? ⟨b, o, none⟩ = some (.string i.name) ∧ w.cell? ⟨b, o + 1, none⟩ = some (.bool i.there) ∧ w.cell? ⟨b, o + 2, none⟩ = some (.slice a n cap) ∧ w.cell? ⟨b, o + 3, none⟩ = some (.slice a2 n2 cap2) ∧ ImIs S w i (.agg #[.string i.name, .bool i.there, .slice a n cap, .slice a2 n2 cap2]) := by
  obtain ⟨⟨h0, z0⟩, h1, vt, vf, h2, h3, h4⟩ := h
  obtain ⟨a, n, cap, rfl⟩ := h4.1.slice
  obtain ⟨a2, n2, cap2, rfl⟩ := h4.2.slice
  exact ⟨a, n, cap, a2, n2, cap2, h0, h1, h2, h3, _, _, rfl, z0, h4⟩

theorem importName_any (x : ByteArray) (y : Bool) (a : Option Addr) (n cap : Nat) (a2 : Option Addr) (n2 cap2 : Nat) (w : World) : Calls Tryz.prog 78 #[.agg #[.string x, .bool y, .slice a n cap, .slice a2 n2 cap2]] w fun e w' => e = .returned (.string x) ∧ Below w.heap.size w w' := by
  go_enter Tryz.func78, Tryz.ntmps78
  go_wp2
  go_ret
  exact ⟨rfl, (Below.refl _ _).alloc (Nat.le_refl _) _⟩

theorem empty_any (f : Fc) (a : Option Addr) (cap : Nat) (a2 : Option Addr) (cap2 : Nat) (w : World) : Calls Tryz.prog 148 #[.agg #[.slice a f.types.length cap, .slice a2 f.funcs.length cap2]] w fun e w' => e = .returned (.bool (fcNone f)) ∧ Below w.heap.size w w' := by
  have HE : Hid (fcNone f = (((f.types.length : Int) == 0) && ((f.funcs.length : Int) == 0))) := rfl
  have HA : Hid (∀ o, Below w.heap.size w (w.alloc o)) := fun o => (Below.refl _ _).alloc (Nat.le_refl _) _
  generalize fcNone f = r at *
  generalize f.types.length = n at *
  generalize f.funcs.length = m at *
  cases hn : ((n : Int) == 0) with
  | false =>
    have HR : Hid (r = false) := by show _ = _; rw [HE.out, hn]; rfl
    clear HE
    go_enter Tryz.func148, Tryz.ntmps148
    go_wp2
    go_ret
    exact ⟨by rw [HR.out]; rfl, HA.out _⟩
  | true =>
    cases hm : ((m : Int) == 0) with
    | false =>
      have HR : Hid (r = false) := by show _ = _; rw [HE.out, hn, hm]; rfl
      clear HE
      go_enter Tryz.func148, Tryz.ntmps148
      go_wp2
      go_ret
      exact ⟨by rw [HR.out]; rfl, HA.out _⟩
    | true =>
      have HR : Hid (r = true) := by show _ = _; rw [HE.out, hn, hm]; rfl
      clear HE
      go_enter Tryz.func148, Tryz.ntmps148
      go_wp2
      go_ret
      exact ⟨by rw [HR.out]; rfl, HA.out _⟩

set_option maxHeartbeats 2000000 in
theorem checkImport_name (S : Nat → Prop) (i : Im) (v : Value) (w : World) (hS : ∀ b, S b → b < w.heap.size) (hv : ImIs S w i v) (hi : identOk i.name = false) :
    Calls Tryz.prog 79 #[v] w fun e w' => e = .returned (.int .i64 (4)) ∧ Below w.heap.size w w' := by
  obtain ⟨vt, vf, rfl, hz, hcs⟩ := hv
  have HI : Hid (∀ W, Calls Tryz.prog 106 #[.string i.name] W fun e w' => e = .returned (.bool (identOk i.name)) ∧ Below W.heap.size W w') := fun W => ident_any _ hz W
  have HF : Hid (∀ W, Below w.heap.size w W → Calls Tryz.prog 20 #[.agg #[vt, vf]] W fun e w' => e = .returned (.int .i64 (fcFault i.face)) ∧ Below W.heap.size W w') := fun W hW =>
    checkFace_any S _ _ W (fun b hb => Nat.lt_of_lt_of_le (hS b hb) hW.size) ⟨_, _, rfl, hcs.keep (Keeps.below hW hS)⟩
  obtain ⟨a, cap, rfl⟩ := hcs.1.is
  obtain ⟨a2, cap2, rfl⟩ := hcs.2.is
  have HM : Hid (∀ W, Calls Tryz.prog 148 #[.agg #[.slice a i.face.types.length cap, .slice a2 i.face.funcs.length cap2]] W fun e w' => e = .returned (.bool (fcNone i.face)) ∧ Below W.heap.size W w') := fun W => empty_any _ _ _ _ _ W
  clear hcs hz hS
  generalize fcFault i.face = q at *
  generalize fcNone i.face = em at *
  generalize i.face.types.length = n at *
  generalize i.face.funcs.length = m at *
  generalize i.there = th at *
  generalize identOk i.name = idn at *
  generalize i.name = x at *
  obtain ⟨w2, hwe, hs2, p1, p2, p3, hbel⟩ : ∃ w2, w.alloc (.cells #[.string x, .bool th, .slice a n cap, .slice a2 m cap2] 51) = w2 ∧ w2.heap.size = w.heap.size + 1 ∧ w2.cell? ⟨w.heap.size, 1, none⟩ = some (.bool th) ∧ w2.cell? ⟨w.heap.size, 2, none⟩ = some (.slice a n cap) ∧ w2.cell? ⟨w.heap.size, 3, none⟩ = some (.slice a2 m cap2) ∧ Below w.heap.size w w2 :=
    ⟨_, rfl, by simp, by simp [go_sem], by simp [go_sem], by simp [go_sem], (Below.refl _ _).alloc (Nat.le_refl _) _⟩
  have HCell : Hid (∀ W, Below w2.heap.size w2 W → (W.cell? ⟨w.heap.size, 1, none⟩ = some (.bool th) ∧ W.cell? ⟨w.heap.size, 2, none⟩ = some (.slice a n cap) ∧ W.cell? ⟨w.heap.size, 3, none⟩ = some (.slice a2 m cap2)) ∧ Below w.heap.size w W) := fun W h =>
    ⟨⟨(h.cell (p := ⟨w.heap.size, 1, none⟩) (by show w.heap.size < _; omega)).trans p1, (h.cell (p := ⟨w.heap.size, 2, none⟩) (by show w.heap.size < _; omega)).trans p2, (h.cell (p := ⟨w.heap.size, 3, none⟩) (by show w.heap.size < _; omega)).trans p3⟩, hbel.trans (h.mono hbel.size)⟩
  have HWe := veil hwe
  clear hwe hbel p1 p2 p3
  subst hi
  go_enter Tryz.func79, Tryz.ntmps79
  go_wp2_with fail
  rw [HWe.out]
  refine (HI.out _).mono ?_
  rintro e w3 ⟨rfl, hb3⟩
  obtain ⟨⟨c1, c2, c3⟩, hb⟩ := HCell.out _ hb3
  have HB3 := veil hb
  have HBb := veil hb3
  clear hb3 hb
  go_wp2_with fail
  go_ret
  exact ⟨rfl, HB3.out⟩

set_option maxHeartbeats 2000000 in
theorem checkImport_face (S : Nat → Prop) (i : Im) (v : Value) (w : World) (hS : ∀ b, S b → b < w.heap.size) (hv : ImIs S w i v) (hi : identOk i.name = true) (hq : fcFault i.face ≠ 0) :
    Calls Tryz.prog 79 #[v] w fun e w' => e = .returned (.int .i64 (fcFault i.face)) ∧ Below w.heap.size w w' := by
  obtain ⟨vt, vf, rfl, hz, hcs⟩ := hv
  have HI : Hid (∀ W, Calls Tryz.prog 106 #[.string i.name] W fun e w' => e = .returned (.bool (identOk i.name)) ∧ Below W.heap.size W w') := fun W => ident_any _ hz W
  have HF : Hid (∀ W, Below w.heap.size w W → Calls Tryz.prog 20 #[.agg #[vt, vf]] W fun e w' => e = .returned (.int .i64 (fcFault i.face)) ∧ Below W.heap.size W w') := fun W hW =>
    checkFace_any S _ _ W (fun b hb => Nat.lt_of_lt_of_le (hS b hb) hW.size) ⟨_, _, rfl, hcs.keep (Keeps.below hW hS)⟩
  obtain ⟨a, cap, rfl⟩ := hcs.1.is
  obtain ⟨a2, cap2, rfl⟩ := hcs.2.is
  have HM : Hid (∀ W, Calls Tryz.prog 148 #[.agg #[.slice a i.face.types.length cap, .slice a2 i.face.funcs.length cap2]] W fun e w' => e = .returned (.bool (fcNone i.face)) ∧ Below W.heap.size W w') := fun W => empty_any _ _ _ _ _ W
  clear hcs hz hS
  generalize fcFault i.face = q at *
  generalize fcNone i.face = em at *
  generalize i.face.types.length = n at *
  generalize i.face.funcs.length = m at *
  generalize i.there = th at *
  generalize identOk i.name = idn at *
  generalize i.name = x at *
  obtain ⟨w2, hwe, hs2, p1, p2, p3, hbel⟩ : ∃ w2, w.alloc (.cells #[.string x, .bool th, .slice a n cap, .slice a2 m cap2] 51) = w2 ∧ w2.heap.size = w.heap.size + 1 ∧ w2.cell? ⟨w.heap.size, 1, none⟩ = some (.bool th) ∧ w2.cell? ⟨w.heap.size, 2, none⟩ = some (.slice a n cap) ∧ w2.cell? ⟨w.heap.size, 3, none⟩ = some (.slice a2 m cap2) ∧ Below w.heap.size w w2 :=
    ⟨_, rfl, by simp, by simp [go_sem], by simp [go_sem], by simp [go_sem], (Below.refl _ _).alloc (Nat.le_refl _) _⟩
  have HCell : Hid (∀ W, Below w2.heap.size w2 W → (W.cell? ⟨w.heap.size, 1, none⟩ = some (.bool th) ∧ W.cell? ⟨w.heap.size, 2, none⟩ = some (.slice a n cap) ∧ W.cell? ⟨w.heap.size, 3, none⟩ = some (.slice a2 m cap2)) ∧ Below w.heap.size w W) := fun W h =>
    ⟨⟨(h.cell (p := ⟨w.heap.size, 1, none⟩) (by show w.heap.size < _; omega)).trans p1, (h.cell (p := ⟨w.heap.size, 2, none⟩) (by show w.heap.size < _; omega)).trans p2, (h.cell (p := ⟨w.heap.size, 3, none⟩) (by show w.heap.size < _; omega)).trans p3⟩, hbel.trans (h.mono hbel.size)⟩
  have HWe := veil hwe
  clear hwe hbel p1 p2 p3
  subst hi
  have hq' : (q != 0) = true := by simpa using hq
  clear hq
  go_enter Tryz.func79, Tryz.ntmps79
  go_wp2_with fail
  rw [HWe.out]
  refine (HI.out _).mono ?_
  rintro e w3 ⟨rfl, hb3⟩
  obtain ⟨⟨c1, c2, c3⟩, hb⟩ := HCell.out _ hb3
  have HB3 := veil hb
  have HBb := veil hb3
  clear hb3 hb
  go_wp2_with fail
  refine (HF.out _ HB3.out).mono ?_
  rintro e w4 ⟨rfl, hb4⟩
  obtain ⟨⟨c1', c2', c3'⟩, hb⟩ := HCell.out _ (HBb.out.trans (hb4.mono HBb.out.size))
  have HB4 := veil hb
  clear hb4 hb c1 c2 c3
  go_wp2_with fail
  go_ret
  exact ⟨rfl, HB4.out⟩

set_option maxHeartbeats 2000000 in
theorem checkImport_there (S : Nat → Prop) (i : Im) (v : Value) (w : World) (hS : ∀ b, S b → b < w.heap.size) (hv : ImIs S w i v) (hi : identOk i.name = true) (hq : fcFault i.face = 0) (ht : i.there = true) :
    Calls Tryz.prog 79 #[v] w fun e w' => e = .returned (.int .i64 (0)) ∧ Below w.heap.size w w' := by
  obtain ⟨vt, vf, rfl, hz, hcs⟩ := hv
  have HI : Hid (∀ W, Calls Tryz.prog 106 #[.string i.name] W fun e w' => e = .returned (.bool (identOk i.name)) ∧ Below W.heap.size W w') := fun W => ident_any _ hz W
  have HF : Hid (∀ W, Below w.heap.size w W → Calls Tryz.prog 20 #[.agg #[vt, vf]] W fun e w' => e = .returned (.int .i64 (fcFault i.face)) ∧ Below W.heap.size W w') := fun W hW =>
    checkFace_any S _ _ W (fun b hb => Nat.lt_of_lt_of_le (hS b hb) hW.size) ⟨_, _, rfl, hcs.keep (Keeps.below hW hS)⟩
  obtain ⟨a, cap, rfl⟩ := hcs.1.is
  obtain ⟨a2, cap2, rfl⟩ := hcs.2.is
  have HM : Hid (∀ W, Calls Tryz.prog 148 #[.agg #[.slice a i.face.types.length cap, .slice a2 i.face.funcs.length cap2]] W fun e w' => e = .returned (.bool (fcNone i.face)) ∧ Below W.heap.size W w') := fun W => empty_any _ _ _ _ _ W
  clear hcs hz hS
  generalize fcFault i.face = q at *
  generalize fcNone i.face = em at *
  generalize i.face.types.length = n at *
  generalize i.face.funcs.length = m at *
  generalize i.there = th at *
  generalize identOk i.name = idn at *
  generalize i.name = x at *
  obtain ⟨w2, hwe, hs2, p1, p2, p3, hbel⟩ : ∃ w2, w.alloc (.cells #[.string x, .bool th, .slice a n cap, .slice a2 m cap2] 51) = w2 ∧ w2.heap.size = w.heap.size + 1 ∧ w2.cell? ⟨w.heap.size, 1, none⟩ = some (.bool th) ∧ w2.cell? ⟨w.heap.size, 2, none⟩ = some (.slice a n cap) ∧ w2.cell? ⟨w.heap.size, 3, none⟩ = some (.slice a2 m cap2) ∧ Below w.heap.size w w2 :=
    ⟨_, rfl, by simp, by simp [go_sem], by simp [go_sem], by simp [go_sem], (Below.refl _ _).alloc (Nat.le_refl _) _⟩
  have HCell : Hid (∀ W, Below w2.heap.size w2 W → (W.cell? ⟨w.heap.size, 1, none⟩ = some (.bool th) ∧ W.cell? ⟨w.heap.size, 2, none⟩ = some (.slice a n cap) ∧ W.cell? ⟨w.heap.size, 3, none⟩ = some (.slice a2 m cap2)) ∧ Below w.heap.size w W) := fun W h =>
    ⟨⟨(h.cell (p := ⟨w.heap.size, 1, none⟩) (by show w.heap.size < _; omega)).trans p1, (h.cell (p := ⟨w.heap.size, 2, none⟩) (by show w.heap.size < _; omega)).trans p2, (h.cell (p := ⟨w.heap.size, 3, none⟩) (by show w.heap.size < _; omega)).trans p3⟩, hbel.trans (h.mono hbel.size)⟩
  have HWe := veil hwe
  clear hwe hbel p1 p2 p3
  subst hi hq ht
  go_enter Tryz.func79, Tryz.ntmps79
  go_wp2_with fail
  rw [HWe.out]
  refine (HI.out _).mono ?_
  rintro e w3 ⟨rfl, hb3⟩
  obtain ⟨⟨c1, c2, c3⟩, hb⟩ := HCell.out _ hb3
  have HB3 := veil hb
  have HBb := veil hb3
  clear hb3 hb
  go_wp2_with fail
  refine (HF.out _ HB3.out).mono ?_
  rintro e w4 ⟨rfl, hb4⟩
  obtain ⟨⟨c1', c2', c3'⟩, hb⟩ := HCell.out _ (HBb.out.trans (hb4.mono HBb.out.size))
  have HB4 := veil hb
  clear hb4 hb c1 c2 c3
  go_wp2_with fail
  go_ret
  exact ⟨rfl, HB4.out⟩

set_option maxHeartbeats 2000000 in
theorem checkImport_none (S : Nat → Prop) (i : Im) (v : Value) (w : World) (hS : ∀ b, S b → b < w.heap.size) (hv : ImIs S w i v) (hi : identOk i.name = true) (hq : fcFault i.face = 0) (ht : i.there = false) (hn : fcNone i.face = true) :
    Calls Tryz.prog 79 #[v] w fun e w' => e = .returned (.int .i64 (0)) ∧ Below w.heap.size w w' := by
  obtain ⟨vt, vf, rfl, hz, hcs⟩ := hv
  have HI : Hid (∀ W, Calls Tryz.prog 106 #[.string i.name] W fun e w' => e = .returned (.bool (identOk i.name)) ∧ Below W.heap.size W w') := fun W => ident_any _ hz W
  have HF : Hid (∀ W, Below w.heap.size w W → Calls Tryz.prog 20 #[.agg #[vt, vf]] W fun e w' => e = .returned (.int .i64 (fcFault i.face)) ∧ Below W.heap.size W w') := fun W hW =>
    checkFace_any S _ _ W (fun b hb => Nat.lt_of_lt_of_le (hS b hb) hW.size) ⟨_, _, rfl, hcs.keep (Keeps.below hW hS)⟩
  obtain ⟨a, cap, rfl⟩ := hcs.1.is
  obtain ⟨a2, cap2, rfl⟩ := hcs.2.is
  have HM : Hid (∀ W, Calls Tryz.prog 148 #[.agg #[.slice a i.face.types.length cap, .slice a2 i.face.funcs.length cap2]] W fun e w' => e = .returned (.bool (fcNone i.face)) ∧ Below W.heap.size W w') := fun W => empty_any _ _ _ _ _ W
  clear hcs hz hS
  generalize fcFault i.face = q at *
  generalize fcNone i.face = em at *
  generalize i.face.types.length = n at *
  generalize i.face.funcs.length = m at *
  generalize i.there = th at *
  generalize identOk i.name = idn at *
  generalize i.name = x at *
  obtain ⟨w2, hwe, hs2, p1, p2, p3, hbel⟩ : ∃ w2, w.alloc (.cells #[.string x, .bool th, .slice a n cap, .slice a2 m cap2] 51) = w2 ∧ w2.heap.size = w.heap.size + 1 ∧ w2.cell? ⟨w.heap.size, 1, none⟩ = some (.bool th) ∧ w2.cell? ⟨w.heap.size, 2, none⟩ = some (.slice a n cap) ∧ w2.cell? ⟨w.heap.size, 3, none⟩ = some (.slice a2 m cap2) ∧ Below w.heap.size w w2 :=
    ⟨_, rfl, by simp, by simp [go_sem], by simp [go_sem], by simp [go_sem], (Below.refl _ _).alloc (Nat.le_refl _) _⟩
  have HCell : Hid (∀ W, Below w2.heap.size w2 W → (W.cell? ⟨w.heap.size, 1, none⟩ = some (.bool th) ∧ W.cell? ⟨w.heap.size, 2, none⟩ = some (.slice a n cap) ∧ W.cell? ⟨w.heap.size, 3, none⟩ = some (.slice a2 m cap2)) ∧ Below w.heap.size w W) := fun W h =>
    ⟨⟨(h.cell (p := ⟨w.heap.size, 1, none⟩) (by show w.heap.size < _; omega)).trans p1, (h.cell (p := ⟨w.heap.size, 2, none⟩) (by show w.heap.size < _; omega)).trans p2, (h.cell (p := ⟨w.heap.size, 3, none⟩) (by show w.heap.size < _; omega)).trans p3⟩, hbel.trans (h.mono hbel.size)⟩
  have HWe := veil hwe
  clear hwe hbel p1 p2 p3
  subst hi hq ht hn
  go_enter Tryz.func79, Tryz.ntmps79
  go_wp2_with fail
  rw [HWe.out]
  refine (HI.out _).mono ?_
  rintro e w3 ⟨rfl, hb3⟩
  obtain ⟨⟨c1, c2, c3⟩, hb⟩ := HCell.out _ hb3
  have HB3 := veil hb
  have HBb := veil hb3
  clear hb3 hb
  go_wp2_with fail
  refine (HF.out _ HB3.out).mono ?_
  rintro e w4 ⟨rfl, hb4⟩
  obtain ⟨⟨c1', c2', c3'⟩, hb⟩ := HCell.out _ (HBb.out.trans (hb4.mono HBb.out.size))
  have HB4 := veil hb
  clear hb4 hb c1 c2 c3
  go_wp2_with fail
  refine (HM.out _).mono ?_
  rintro e w5 ⟨rfl, hb5⟩
  have HB5 := veil (HB4.out.trans (hb5.mono HB4.out.size))
  clear hb5
  go_wp2_with fail
  go_ret
  exact ⟨rfl, HB5.out⟩

set_option maxHeartbeats 2000000 in
theorem checkImport_some (S : Nat → Prop) (i : Im) (v : Value) (w : World) (hS : ∀ b, S b → b < w.heap.size) (hv : ImIs S w i v) (hi : identOk i.name = true) (hq : fcFault i.face = 0) (ht : i.there = false) (hn : fcNone i.face = false) :
    Calls Tryz.prog 79 #[v] w fun e w' => e = .returned (.int .i64 (4)) ∧ Below w.heap.size w w' := by
  obtain ⟨vt, vf, rfl, hz, hcs⟩ := hv
  have HI : Hid (∀ W, Calls Tryz.prog 106 #[.string i.name] W fun e w' => e = .returned (.bool (identOk i.name)) ∧ Below W.heap.size W w') := fun W => ident_any _ hz W
  have HF : Hid (∀ W, Below w.heap.size w W → Calls Tryz.prog 20 #[.agg #[vt, vf]] W fun e w' => e = .returned (.int .i64 (fcFault i.face)) ∧ Below W.heap.size W w') := fun W hW =>
    checkFace_any S _ _ W (fun b hb => Nat.lt_of_lt_of_le (hS b hb) hW.size) ⟨_, _, rfl, hcs.keep (Keeps.below hW hS)⟩
  obtain ⟨a, cap, rfl⟩ := hcs.1.is
  obtain ⟨a2, cap2, rfl⟩ := hcs.2.is
  have HM : Hid (∀ W, Calls Tryz.prog 148 #[.agg #[.slice a i.face.types.length cap, .slice a2 i.face.funcs.length cap2]] W fun e w' => e = .returned (.bool (fcNone i.face)) ∧ Below W.heap.size W w') := fun W => empty_any _ _ _ _ _ W
  clear hcs hz hS
  generalize fcFault i.face = q at *
  generalize fcNone i.face = em at *
  generalize i.face.types.length = n at *
  generalize i.face.funcs.length = m at *
  generalize i.there = th at *
  generalize identOk i.name = idn at *
  generalize i.name = x at *
  obtain ⟨w2, hwe, hs2, p1, p2, p3, hbel⟩ : ∃ w2, w.alloc (.cells #[.string x, .bool th, .slice a n cap, .slice a2 m cap2] 51) = w2 ∧ w2.heap.size = w.heap.size + 1 ∧ w2.cell? ⟨w.heap.size, 1, none⟩ = some (.bool th) ∧ w2.cell? ⟨w.heap.size, 2, none⟩ = some (.slice a n cap) ∧ w2.cell? ⟨w.heap.size, 3, none⟩ = some (.slice a2 m cap2) ∧ Below w.heap.size w w2 :=
    ⟨_, rfl, by simp, by simp [go_sem], by simp [go_sem], by simp [go_sem], (Below.refl _ _).alloc (Nat.le_refl _) _⟩
  have HCell : Hid (∀ W, Below w2.heap.size w2 W → (W.cell? ⟨w.heap.size, 1, none⟩ = some (.bool th) ∧ W.cell? ⟨w.heap.size, 2, none⟩ = some (.slice a n cap) ∧ W.cell? ⟨w.heap.size, 3, none⟩ = some (.slice a2 m cap2)) ∧ Below w.heap.size w W) := fun W h =>
    ⟨⟨(h.cell (p := ⟨w.heap.size, 1, none⟩) (by show w.heap.size < _; omega)).trans p1, (h.cell (p := ⟨w.heap.size, 2, none⟩) (by show w.heap.size < _; omega)).trans p2, (h.cell (p := ⟨w.heap.size, 3, none⟩) (by show w.heap.size < _; omega)).trans p3⟩, hbel.trans (h.mono hbel.size)⟩
  have HWe := veil hwe
  clear hwe hbel p1 p2 p3
  subst hi hq ht hn
  go_enter Tryz.func79, Tryz.ntmps79
  go_wp2_with fail
  rw [HWe.out]
  refine (HI.out _).mono ?_
  rintro e w3 ⟨rfl, hb3⟩
  obtain ⟨⟨c1, c2, c3⟩, hb⟩ := HCell.out _ hb3
  have HB3 := veil hb
  have HBb := veil hb3
  clear hb3 hb
  go_wp2_with fail
  refine (HF.out _ HB3.out).mono ?_
  rintro e w4 ⟨rfl, hb4⟩
  obtain ⟨⟨c1', c2', c3'⟩, hb⟩ := HCell.out _ (HBb.out.trans (hb4.mono HBb.out.size))
  have HB4 := veil hb
  clear hb4 hb c1 c2 c3
  go_wp2_with fail
  refine (HM.out _).mono ?_
  rintro e w5 ⟨rfl, hb5⟩
  have HB5 := veil (HB4.out.trans (hb5.mono HB4.out.size))
  clear hb5
  go_wp2_with fail
  go_ret
  exact ⟨rfl, HB5.out⟩

theorem checkImport_any (S : Nat → Prop) (i : Im) (v : Value) (w : World) (hS : ∀ b, S b → b < w.heap.size) (hv : ImIs S w i v) :
    Calls Tryz.prog 79 #[v] w fun e w' => e = .returned (.int .i64 (imFault i)) ∧ Below w.heap.size w w' := by
  unfold imFault
  cases hi : identOk i.name with
  | false =>
    rw [if_neg (by simp)]
    exact checkImport_name S i v w hS hv hi
  | true =>
    rw [if_pos rfl]
    by_cases hq : fcFault i.face = 0
    · rw [if_pos hq]
      cases ht : i.there with
      | true => exact checkImport_there S i v w hS hv hi hq ht
      | false =>
        cases hn : fcNone i.face with
        | true => exact checkImport_none S i v w hS hv hi hq ht hn
        | false => exact checkImport_some S i v w hS hv hi hq ht hn
    · rw [if_neg hq]
      exact checkImport_face S i v w hS hv hi hq

set_option maxHeartbeats 4000000 in
theorem inOrder_im (S : Nat → Prop) (l : List Im) (v : Value) (w : World) (hS : ∀ b, S b → b < w.heap.size) (hv : SlAt S (ImAt S w) 4 l v) :
    Calls Tryz.prog 77 #[v, .func (.func 78) #[] #[], .func (.func 79) #[] #[]] w fun e w' => e = .returned (.int .i64 (orderFault imFault Im.name l ⟨#[]⟩)) ∧ Below w.heap.size w w' := by
  have HV := veil hv
  have hlen := hv.len
  unfold maxLen at hlen
  obtain ⟨a, cap, rfl⟩ := hv.is
  have HA := veil (Ahead.start w)
  clear hv
  go_enter Tryz.func77, Tryz.ntmps77
  go_wp2_with fail
  refine (rising_any _).mono ?_
  rintro e w1 ⟨rfl, rfl⟩
  go_wp2_with fail
  go_loopw [14] (fun i wr => ∃ (j : Nat) (p : ByteArray), j ≤ l.length ∧ i = .int .i64 j ∧ orderFault imFault Im.name l ⟨#[]⟩ = orderFault imFault Im.name (l.drop j) p ∧ Ahead w p wr) (fun i _ => l.length - (intOf i).toNat)
  case atStart => exact ⟨0, _, Nat.zero_le _, rfl, rfl, HA.out⟩
  case round =>
    obtain ⟨j, p, hj, rfl, hq, hah⟩ := hrel
    have HQ := veil hq
    clear hq HA
    by_cases hlt : j < l.length
    · have hlt' : (j : Int) < (l.length : Int) := by omega
      obtain ⟨_, b, off, rfl, hb, hat⟩ := HV.out.at hlt
      have hbk := hS b hb
      obtain ⟨p1, p2, p3, q1, q2, q3, a0, a1, a2, a3, him⟩ := imIs_at hat
      have d0 := (hah.1.cell (p := ⟨b, off + j * 4, none⟩) hbk).trans a0
      have d1 := (hah.1.cell (p := ⟨b, off + j * 4 + 1, none⟩) hbk).trans a1
      have d2 := (hah.1.cell (p := ⟨b, off + j * 4 + 2, none⟩) hbk).trans a2
      have d3 := (hah.1.cell (p := ⟨b, off + j * 4 + 3, none⟩) hbk).trans a3
      have hbr : b < wr.heap.size := Nat.lt_of_lt_of_le hbk hah.1.size
      have HC : Hid (∀ W, Below wr.heap.size wr W → Calls Tryz.prog 79 #[.agg #[.string l[j].name, .bool l[j].there, .slice p1 p2 p3, .slice q1 q2 q3]] W fun e w' => e = .returned (.int .i64 (imFault l[j])) ∧ Below W.heap.size W w') := fun W hW => by
        have hbW := hah.1.trans (hW.mono hah.1.size)
        exact checkImport_any S _ _ W (fun b hb => Nat.lt_of_lt_of_le (hS b hb) hbW.size) (him.keep (Keeps.below hbW hS))
      have HAl : Hid (∀ o, Below wr.heap.size wr (wr.alloc o)) := fun o => (Below.refl _ _).alloc (Nat.le_refl _) _
      have HBad := veil (@order_bad _ imFault Im.name l j p hlt)
      have HLow := veil (@order_low _ imFault Im.name l j p hlt)
      have HOn := veil (@order_on _ imFault Im.name l j p hlt)
      have HAh : Hid (∀ o W, Below (wr.alloc o).heap.size (wr.alloc o) W → Ahead w p W) := fun o W hW => (hah.later ((Below.refl _ _).alloc (Nat.le_refl _) o)).later hW
      have HCe : Hid (∀ x y W, Below (wr.alloc (.cells #[.string x, .bool y, .slice p1 p2 p3, .slice q1 q2 q3] 51)).heap.size (wr.alloc (.cells #[.string x, .bool y, .slice p1 p2 p3, .slice q1 q2 q3] 51)) W → W.cell? ⟨wr.heap.size, 0, none⟩ = some (.string x) ∧ W.cell? ⟨wr.heap.size, 1, none⟩ = some (.bool y) ∧ W.cell? ⟨wr.heap.size, 2, none⟩ = some (.slice p1 p2 p3) ∧ W.cell? ⟨wr.heap.size, 3, none⟩ = some (.slice q1 q2 q3)) := fun x y W hW =>
        ⟨(hW.cell (p := ⟨wr.heap.size, 0, none⟩) (by simp)).trans (by simp [go_sem]), (hW.cell (p := ⟨wr.heap.size, 1, none⟩) (by simp)).trans (by simp [go_sem]), (hW.cell (p := ⟨wr.heap.size, 2, none⟩) (by simp)).trans (by simp [go_sem]), (hW.cell (p := ⟨wr.heap.size, 3, none⟩) (by simp)).trans (by simp [go_sem])⟩
      clear a0 a1 a2 a3 him hat HV hah
      generalize imFault l[j] = n at *
      generalize l[j].name = x at *
      generalize l[j].there = y at *
      by_cases hn : n = 0
      · subst hn
        go_wp2_with fail
        refine (HC.out _ (HAl.out _)).mono ?_
        rintro e w1 ⟨rfl, hb1⟩
        obtain ⟨e0, e1, e2, e3⟩ := HCe.out _ _ _ hb1
        have ha1 := HAh.out _ _ hb1
        have HA1 := veil ha1
        clear hb1 ha1
        go_wp2_with fail
        refine (importName_any x y _ _ _ _ _ _ _).mono ?_
        rintro e w2 ⟨rfl, hb2⟩
        have ha2 := HA1.out.later hb2
        have HA2 := veil ha2
        obtain ⟨-, hsz2, hc2, hf2⟩ := ha2
        clear hb2
        cases hg : gtB x p with
        | true =>
          have HOn' := veil (HOn.out trivial hg)
          go_wp2_with fail
          refine (risingOf_any w.heap.size x p _ hc2 hf2).mono ?_
          rintro e w3 ⟨rfl, rfl⟩
          rw [hg]
          go_wp2_with fail
          exact ⟨⟨j + 1, x, by omega, by go_num, HQ.out.trans HOn'.out, HA2.out.put x⟩, by simp [intOf]; omega⟩
        | false =>
          have HLow' := veil (HLow.out trivial hg)
          have HF : Hid (∀ s, Below w.heap.size w (w2.setCell ⟨w.heap.size, 0, none⟩ (.string s))) := fun s => (HA2.out.put s).1
          go_wp2_with fail
          refine (risingOf_any w.heap.size x p _ hc2 hf2).mono ?_
          rintro e w3 ⟨rfl, rfl⟩
          rw [hg]
          go_wp2_with fail
          go_ret
          exact ⟨by rw [HQ.out, HLow'.out]; rfl, HF.out _⟩
      · have hn' : (n != 0) = true := by simpa using hn
        have HBad' := veil (HBad.out hn)
        clear hn
        go_wp2_with fail
        refine (HC.out _ (HAl.out _)).mono ?_
        rintro e w1 ⟨rfl, hb1⟩
        have HB1 := veil (HAh.out _ _ hb1).1
        clear hb1
        go_wp2_with fail
        go_ret
        exact ⟨by rw [HQ.out, HBad'.out]; rfl, HB1.out⟩
    · have hnl : ¬ (j : Int) < (l.length : Int) := by omega
      have HE : Hid (orderFault imFault Im.name l ⟨#[]⟩ = 0) := HQ.out.trans (order_end (by omega))
      have HB := veil hah.1
      clear HV hah HQ
      go_wp2_with fail
      go_ret
      exact ⟨by rw [HE.out]; rfl, HB.out⟩

end Go.Proofs.YtagbaimfigljiaaGreatDoor
namespace Go.Proofs.YtagbaimfigljiaaGreatDoor
open Go.RowKit
set_option maxRecDepth 100000

set_option maxHeartbeats 1000000 in
theorem checkImports_any (S : Nat → Prop) (l : List Im) (v : Value) (w : World) (hS : ∀ b, S b → b < w.heap.size) (hv : SlAt S (ImAt S w) 4 l v) :
    Calls Tryz.prog 34 #[v] w fun e w' => e = .returned (.int .i64 (imsFault l)) ∧ Below w.heap.size w w' := by
  have HC : Hid (Calls Tryz.prog 77 #[v, .func (.func 78) #[] #[], .func (.func 79) #[] #[]] w fun e w' => e = .returned (.int .i64 (orderFault imFault Im.name l ⟨#[]⟩)) ∧ Below w.heap.size w w') := inOrder_im S l v w hS hv
  have HE : Hid (imsFault l = if 24 < (l.length : Int) then 1 else orderFault imFault Im.name l ⟨#[]⟩) := rfl
  obtain ⟨a, cap, rfl⟩ := hv.is
  clear hv
  generalize imsFault l = r at *
  generalize orderFault imFault Im.name l ⟨#[]⟩ = q at *
  by_cases h24 : 24 < (l.length : Int)
  · have HR : Hid (r = 1) := HE.out.trans (if_pos h24)
    clear HE
    go_enter Tryz.func34, Tryz.ntmps34
    go_wp2_with fail
    go_ret
    exact ⟨by rw [HR.out]; rfl, Below.refl _ _⟩
  · have HR : Hid (r = q) := HE.out.trans (if_neg h24)
    clear HE
    go_enter Tryz.func34, Tryz.ntmps34
    go_wp2_with fail
    refine HC.out.mono ?_
    rintro e w1 ⟨rfl, hb⟩
    go_wp2_with fail
    go_ret
    exact ⟨by rw [HR.out]; rfl, hb⟩

end Go.Proofs.YtagbaimfigljiaaGreatDoor
namespace Go.Proofs.YtagbaimfigljiaaGreatDoor
open Go.RowKit
set_option maxRecDepth 100000

def impAt (l : List Im) (s : ByteArray) : Nat := findAt (fun i : Im => sEq i.name s) l
def fromOk (u : List ByteArray) (l : List Im) (s : ByteArray) : Bool := match l[impAt l s]? with
  | some i => i.there && hasS u s
  | none => false
def fromFc (u : List ByteArray) (l : List Im) (s : ByteArray) : Fc := match l[impAt l s]? with
  | some i => if (i.there && hasS u s) = true then i.face else ⟨[], []⟩
  | none => ⟨[], []⟩

theorem fcNil (S : Nat → Prop) (w : World) : FcIs S w ⟨[], []⟩ (.agg #[.slice none 0 0, .slice none 0 0]) :=
  ⟨_, _, rfl, ⟨none, 0, rfl, ⟨by simp, by simp⟩, Or.inl rfl⟩, ⟨none, 0, rfl, ⟨by simp, by simp⟩, Or.inl rfl⟩⟩

theorem from_out {u : List ByteArray} {l : List Im} {s : ByteArray} (h : l.length ≤ impAt l s) : fromOk u l s = false ∧ fromFc u l s = ⟨[], []⟩ := by
  unfold fromOk fromFc
  rw [List.getElem?_eq_none h]
  exact ⟨rfl, rfl⟩
theorem from_no {u : List ByteArray} {l : List Im} {s : ByteArray} (h : impAt l s < l.length) (hn : (l[impAt l s].there && hasS u s) = false) : fromOk u l s = false ∧ fromFc u l s = ⟨[], []⟩ := by
  unfold fromOk fromFc
  rw [List.getElem?_eq_getElem h]
  simp only [hn]
  exact ⟨trivial, if_neg (by simp)⟩
theorem from_yes {u : List ByteArray} {l : List Im} {s : ByteArray} (h : impAt l s < l.length) (hn : (l[impAt l s].there && hasS u s) = true) : fromOk u l s = true ∧ fromFc u l s = l[impAt l s].face := by
  unfold fromOk fromFc
  rw [List.getElem?_eq_getElem h]
  simp only [hn]
  exact ⟨trivial, if_pos trivial⟩

set_option maxHeartbeats 2000000 in
theorem used_any (S : Nat → Prop) (m : Mo) (l : List Im) (s : ByteArray) (vm v : Value) (w : World) (hS : ∀ b, S b → b < w.heap.size) (hm : MoIs S w m vm) (hv : SlAt S (ImAt S w) 4 l v) :
    Calls Tryz.prog 235 #[vm, v, .string s] w fun e w' => ∃ a n cap a2 n2 cap2, e = .returned (.tuple #[.agg #[.slice a n cap, .slice a2 n2 cap2], .bool (fromOk m.uses l s)]) ∧ FcIs S w (fromFc m.uses l s) (.agg #[.slice a n cap, .slice a2 n2 cap2]) ∧ Below w.heap.size w w' := by
  obtain ⟨vu, vt, vf, rfl, hu, ht, hf⟩ := hm
  obtain ⟨u1, u2, u3, rfl⟩ := hu.slice
  obtain ⟨t1, t2, t3, rfl⟩ := ht.slice
  obtain ⟨f1, f2, f3, rfl⟩ := hf.slice
  have HV := veil hv
  have hlen := hv.len
  unfold maxLen at hlen
  obtain ⟨a, cap, rfl⟩ := hv.is
  obtain ⟨w2, hwe, hs2, p0, p1, hbel, q0, q1, f0, f1⟩ : ∃ w2, ((w.alloc (.cells #[.slice u1 u2 u3, .slice t1 t2 t3, .slice f1 f2 f3] 44)).alloc (.cells #[.string s] 9)).alloc (.cells #[.slice none 0 0, .slice none 0 0] 30) = w2 ∧ w2.heap.size = w.heap.size + 3 ∧
      w2.cell? ⟨w.heap.size, 0, none⟩ = some (.slice u1 u2 u3) ∧ w2.cell? ⟨w.heap.size + 1, 0, none⟩ = some (.string s) ∧ Below w.heap.size w w2 ∧
      w2.cell? ⟨w.heap.size + 2, 0, none⟩ = some (.slice none 0 0) ∧ w2.cell? ⟨w.heap.size + 2, 1, none⟩ = some (.slice none 0 0) ∧ w2.frozen? ⟨w.heap.size + 2, 0, none⟩ = false ∧ w2.frozen? ⟨w.heap.size + 2, 1, none⟩ = false :=
    ⟨_, rfl, by simp, by simp [go_sem], by simp [go_sem], (((Below.refl _ _).alloc (Nat.le_refl _) _).alloc (by simp) _).alloc (by simp; omega) _, by simp [go_sem], by simp [go_sem], by simp [go_sem], by simp [go_sem]⟩
  have HRes : Hid (∀ W, Below w2.heap.size w2 W → (W.cell? ⟨w.heap.size + 2, 0, none⟩ = some (.slice none 0 0) ∧ W.cell? ⟨w.heap.size + 2, 1, none⟩ = some (.slice none 0 0)) ∧ W.frozen? ⟨w.heap.size + 2, 0, none⟩ = false ∧ W.frozen? ⟨w.heap.size + 2, 1, none⟩ = false) := fun W h => by
    exact ⟨⟨(h.cell (p := ⟨w.heap.size + 2, 0, none⟩) (by show w.heap.size + 2 < _; omega)).trans q0, (h.cell (p := ⟨w.heap.size + 2, 1, none⟩) (by show w.heap.size + 2 < _; omega)).trans q1⟩,
      (h.frozen (p := ⟨w.heap.size + 2, 0, none⟩) (by show w.heap.size + 2 < _; omega)).trans f0, (h.frozen (p := ⟨w.heap.size + 2, 1, none⟩) (by show w.heap.size + 2 < _; omega)).trans f1⟩
  have HSet : Hid (∀ W u0 u1, Below w.heap.size w W → Below w.heap.size w ((W.setCell ⟨w.heap.size + 2, 0, none⟩ u0).setCell ⟨w.heap.size + 2, 1, none⟩ u1)) := fun W u0 u1 h =>
    (h.setCell (by show w.heap.size ≤ w.heap.size + 2; omega) _).setCell (by show w.heap.size ≤ w.heap.size + 2; omega) _
  clear q0 q1 f0 f1
  have HC : Hid (Calls Tryz.prog 297 #[.slice a l.length cap, .func (.func 298) #[] #[.pointer (some ⟨w.heap.size + 1, 0, none⟩)]] w2 fun e w' => e = .returned (.int .i64 (idxOf (fun k : Im => sEq k.name s) l)) ∧ Below w2.heap.size w2 w') :=
    index_im S _ _ _ _ w2 (fun b hb => Nat.lt_of_lt_of_le (hS b hb) hbel.size) (imSl_keep (Keeps.below hbel hS) hv) p1
  have HU : Hid (∀ W, Below w.heap.size w W → Calls Tryz.prog 234 #[.slice u1 u2 u3, .string s] W fun e w' => e = .returned (.bool (hasS m.uses s)) ∧ Below W.heap.size W w') := fun W hW =>
    contains_str S _ _ _ W (fun b hb => Nat.lt_of_lt_of_le (hS b hb) hW.size) (strSl_keep (Keeps.below hW hS) hu)
  have HWe := veil hwe
  have HBel := veil hbel
  clear hu ht hf hv hwe hbel
  by_cases hat : impAt l s < l.length
  · obtain ⟨_, b, off, rfl, hb, him⟩ := HV.out.at hat
    have hbk := hS b hb
    obtain ⟨x1, x2, x3, y1, y2, y3, a0, a1, a2, a3, hfc⟩ := im_cells him
    have hI : idxOf (fun k : Im => sEq k.name s) l = (impAt l s : Int) := if_pos hat
    have HA1 := veil a1
    have HA2 := veil a2
    have HA3 := veil a3
    have HF := veil hfc
    have HYes := veil (@from_yes m.uses l s hat)
    have HNo := veil (@from_no m.uses l s hat)
    clear him a0 a1 a2 a3 hfc HV
    rw [hI] at HC
    clear hI
    generalize l[impAt l s].face = fc at *
    generalize l[impAt l s].there = th at *
    generalize impAt l s = k at *
    have hk' : (k : Int) < (l.length : Int) := by omega
    have hk0 : ¬ (k : Int) < 0 := by omega
    have hk1 : (0 : Int) ≤ (k : Int) := by omega
    go_enter Tryz.func235, Tryz.ntmps235
    go_wp2_with fail
    rw [HWe.out]
    refine HC.out.mono ?_
    rintro e w3 ⟨rfl, hb3⟩
    have c0 := (hb3.cell (p := ⟨w.heap.size, 0, none⟩) (by show w.heap.size < _; omega)).trans p0
    have c1 := (hb3.cell (p := ⟨w.heap.size + 1, 0, none⟩) (by show w.heap.size + 1 < _; omega)).trans p1
    have hb4 := HBel.out.trans (hb3.mono HBel.out.size)
    have d1 := (hb4.cell (p := ⟨b, off + k * 4 + 1, none⟩) hbk).trans HA1.out
    have d2 := (hb4.cell (p := ⟨b, off + k * 4 + 2, none⟩) hbk).trans HA2.out
    have d3 := (hb4.cell (p := ⟨b, off + k * 4 + 3, none⟩) hbk).trans HA3.out
    have HB4 := veil hb4
    have HB3 := veil hb3
    obtain ⟨⟨g0, g1⟩, g3, g4⟩ := HRes.out _ hb3
    clear hb3 hb4 p0 p1 HC HBel
    cases th with
    | false =>
      have HR := veil (HNo.out rfl)
      clear HYes HNo HU
      go_wp2_with fail
      exact bodyPost_ret (v := .tuple #[.agg #[.slice none 0 0, .slice none 0 0], .bool false]) (by simp [results, Tryz.results235, go_sem, g0, g1]) rfl ⟨_, _, _, _, _, _, by rw [HR.out.1], by rw [HR.out.2]; exact fcNil S w, HSet.out _ _ _ HB4.out⟩
    | true =>
      have HU2 := veil (HU.out w3 HB4.out)
      clear HU
      go_wp2_with fail
      refine HU2.out.mono ?_
      rintro e w5 ⟨rfl, hb5⟩
      have d4 := (hb5.cell (p := ⟨b, off + k * 4 + 2, none⟩) (by show b < _; have := HB4.out.size; omega)).trans d2
      have d5 := (hb5.cell (p := ⟨b, off + k * 4 + 3, none⟩) (by show b < _; have := HB4.out.size; omega)).trans d3
      have HB5 := veil (HB4.out.trans (hb5.mono HB4.out.size))
      clear g0 g1 g3 g4
      obtain ⟨⟨g0, g1⟩, g3, g4⟩ := HRes.out _ (HB3.out.trans (hb5.mono HB3.out.size))
      clear hb5 d1 d2 d3 c0 c1
      cases hh : hasS m.uses s with
      | false =>
        have HR := veil (HNo.out (by rw [hh]; rfl))
        clear HYes HNo HU2
        go_wp2_with fail
        exact bodyPost_ret (v := .tuple #[.agg #[.slice none 0 0, .slice none 0 0], .bool false]) (by simp [results, Tryz.results235, go_sem, g0, g1]) rfl ⟨_, _, _, _, _, _, by rw [HR.out.1], by rw [HR.out.2]; exact fcNil S w, HSet.out _ _ _ HB5.out⟩
      | true =>
        have HR := veil (HYes.out (by rw [hh]; rfl))
        clear HYes HNo HU2
        go_wp2_with fail
        exact bodyPost_ret (v := .tuple #[.agg #[.slice x1 x2 x3, .slice y1 y2 y3], .bool true]) (by simp [results, Tryz.results235, go_sem, g0, g1]) rfl ⟨_, _, _, _, _, _, by rw [HR.out.1], by rw [HR.out.2]; exact HF.out, HSet.out _ _ _ HB5.out⟩
  · have hI : idxOf (fun k : Im => sEq k.name s) l = -1 := if_neg hat
    have HR := veil (from_out (u := m.uses) (l := l) (s := s) (by omega))
    clear HV HU
    rw [hI] at HC
    clear hI hat
    go_enter Tryz.func235, Tryz.ntmps235
    go_wp2_with fail
    rw [HWe.out]
    refine HC.out.mono ?_
    rintro e w3 ⟨rfl, hb3⟩
    have HB4 := veil (HBel.out.trans (hb3.mono HBel.out.size))
    obtain ⟨⟨g0, g1⟩, g3, g4⟩ := HRes.out _ hb3
    clear hb3 p0 p1
    go_wp2_with fail
    exact bodyPost_ret (v := .tuple #[.agg #[.slice none 0 0, .slice none 0 0], .bool false]) (by simp [results, Tryz.results235, go_sem, g0, g1]) rfl ⟨_, _, _, _, _, _, by rw [HR.out.1], by rw [HR.out.2]; exact fcNil S w, HSet.out _ _ _ HB4.out⟩

end Go.Proofs.YtagbaimfigljiaaGreatDoor
namespace Go.Proofs.YtagbaimfigljiaaGreatDoor
open Go.RowKit
set_option maxRecDepth 100000

theorem keep_new {B : Nat} {W W' : World} (h : Below W.heap.size W W') : Keeps (fun b => B ≤ b ∧ b < W.heap.size) (fun b => B ≤ b ∧ b < W'.heap.size) W W' :=
  ⟨fun b hb => h.block b hb.2, fun _ hb => ⟨hb.1, Nat.lt_of_lt_of_le hb.2 h.size⟩⟩
theorem keep_set {B g : Nat} {W : World} (hg : g < B) (o : Nat) (u : Value) : Keeps (fun b => B ≤ b ∧ b < W.heap.size) (fun b => B ≤ b ∧ b < (W.setCell ⟨g, o, none⟩ u).heap.size) W (W.setCell ⟨g, o, none⟩ u) :=
  ⟨fun b hb => Below.heap_setCell _ _ _ _ (by show b ≠ g; have := hb.1; omega), fun _ hb => ⟨hb.1, by rw [size_setCell']; exact hb.2⟩⟩

/-- what copyFunc's region keeps. -/
def SgBox (w : World) (x y : ByteArray) (p : Value) (W : World) : Prop :=
  Below w.heap.size w W ∧ W.cell? ⟨w.heap.size, 0, none⟩ = some (.string x) ∧ W.cell? ⟨w.heap.size, 1, none⟩ = some p ∧ W.cell? ⟨w.heap.size, 2, none⟩ = some (.string y)

theorem SgBox.later {w : World} {x y : ByteArray} {p : Value} {W W' : World} (h : SgBox w x y p W) (hb : Below W.heap.size W W') : SgBox w x y p W' := by
  obtain ⟨h0, h1, h2, h3⟩ := h
  exact ⟨h0.trans (hb.mono h0.size), (hb.cell (World.block_lt_of_cell? _ _ h1)).trans h1, (hb.cell (World.block_lt_of_cell? _ _ h2)).trans h2, (hb.cell (World.block_lt_of_cell? _ _ h3)).trans h3⟩

theorem SgBox.set {w : World} {x y : ByteArray} {p : Value} {W : World} (h : SgBox w x y p W) (o : Nat) (u : Value) : SgBox w x y p (W.setCell ⟨w.heap.size + 1, o, none⟩ u) := by
  obtain ⟨h0, h1, h2, h3⟩ := h
  refine ⟨h0.setCell (by show w.heap.size ≤ w.heap.size + 1; omega) _, ?_, ?_, ?_⟩
  · rw [World.cell?_setCell_far _ _ _ _ (by show w.heap.size + 1 ≠ w.heap.size; omega)]; exact h1
  · rw [World.cell?_setCell_far _ _ _ _ (by show w.heap.size + 1 ≠ w.heap.size; omega)]; exact h2
  · rw [World.cell?_setCell_far _ _ _ _ (by show w.heap.size + 1 ≠ w.heap.size; omega)]; exact h3

set_option maxHeartbeats 8000000 in
theorem copyFunc_any (S : Nat → Prop) (g : Sg) (v : Value) (w : World) (hS : ∀ b, S b → b < w.heap.size) (hv : SgIs S w g v) (hz : sgSmall g) :
    Calls Tryz.prog 62 #[v] w fun e w' => ∃ a n cap, e = .returned (.agg #[.string g.name, .slice a n cap, .string g.result]) ∧ SlAt (fun b => w.heap.size ≤ b ∧ b < w'.heap.size) (StrAt w') 1 g.params (.slice a n cap) ∧ Below w.heap.size w w' := by
  have hr := reachBytes_lt
  obtain ⟨vp, rfl, hn, hrs, hp⟩ := hv
  obtain ⟨z0, z1, z2, z3⟩ := hz
  have HCx : Hid (∀ W, Calls Tryz.prog 67 #[.string g.name] W fun e w' => e = .returned (.string g.name) ∧ Below W.heap.size W w') := fun W => clone_kind _ W (by omega)
  have HCy : Hid (∀ W, Calls Tryz.prog 67 #[.string g.result] W fun e w' => e = .returned (.string g.result) ∧ Below W.heap.size W w') := fun W => clone_kind _ W (by omega)
  have HCp : Hid (∀ W, Below w.heap.size w W → w.heap.size + 2 ≤ W.heap.size → Calls Tryz.prog 109 #[vp, .func (.func 67) #[] #[]] W fun e w' => ∃ u, e = .returned u ∧ SlAt (fun b => w.heap.size + 2 ≤ b ∧ b < w'.heap.size) (StrAt w') 1 g.params u ∧ Below W.heap.size W w') := fun W hW h2 => by
    refine (copy_strs S _ _ W (fun b hb => Nat.lt_of_lt_of_le (hS b hb) hW.size) (strSl_keep (Keeps.below hW hS) hp) z2 z3).mono ?_
    rintro e w' ⟨u, rfl, h3, h4⟩
    exact ⟨u, rfl, h3.imp (fun b hb => ⟨by omega, hb.2⟩) (fun _ _ _ _ _ h => h), h4⟩
  obtain ⟨a, k, cap, rfl⟩ := hp.slice
  generalize g.name = x at *
  generalize g.result = y at *
  generalize g.params = ps at *
  obtain ⟨w2, hwe, hs2, p0, p1, p2, hbel, hq⟩ : ∃ w2, (w.alloc (.cells #[.string x, .slice a k cap, .string y] 65)).alloc (.cells #[.string ⟨#[]⟩, .slice none 0 0, .string ⟨#[]⟩] 65) = w2 ∧ w2.heap.size = w.heap.size + 2 ∧
      w2.cell? ⟨w.heap.size, 0, none⟩ = some (.string x) ∧ w2.cell? ⟨w.heap.size, 1, none⟩ = some (.slice a k cap) ∧ w2.cell? ⟨w.heap.size, 2, none⟩ = some (.string y) ∧ Below w.heap.size w w2 ∧
      (w2.cell? ⟨w.heap.size + 1, 0, none⟩ = some (.string ⟨#[]⟩) ∧ w2.cell? ⟨w.heap.size + 1, 1, none⟩ = some (.slice none 0 0) ∧ w2.cell? ⟨w.heap.size + 1, 2, none⟩ = some (.string ⟨#[]⟩)) ∧
      w2.frozen? ⟨w.heap.size + 1, 0, none⟩ = false ∧ w2.frozen? ⟨w.heap.size + 1, 1, none⟩ = false ∧ w2.frozen? ⟨w.heap.size + 1, 2, none⟩ = false :=
    ⟨_, rfl, by simp, by simp [go_sem], by simp [go_sem], by simp [go_sem], ((Below.refl _ _).alloc (Nat.le_refl _) _).alloc (by simp) _, ⟨by simp [go_sem], by simp [go_sem], by simp [go_sem]⟩, by simp [go_sem], by simp [go_sem], by simp [go_sem]⟩
  have HWe := veil hwe
  have HX : Hid (Below (w.heap.size + 2) w2 w2.drew) := (Below.refl _ _).drew
  have HBel := veil hbel
  have HB0 : Hid (∀ W, Below (w.heap.size + 2) w2 W → Below w.heap.size w W ∧ w.heap.size + 2 ≤ W.heap.size) := fun W h => ⟨HBel.out.trans (h.mono (by omega)), by have := h.size; omega⟩
  have HK0 : Hid (SgBox w x y (.slice a k cap) w2.drew) := ⟨hbel.drew, p0, p1, p2⟩
  have HN : Hid (∀ W W', SgBox w x y (.slice a k cap) W → Below W.heap.size W W' → SgBox w x y (.slice a k cap) W') := fun _ _ h hb => h.later hb
  have HN2 : Hid (∀ W u v t, SgBox w x y (.slice a k cap) W → SgBox w x y (.slice a k cap) (((W.setCell ⟨w.heap.size + 1, 0, none⟩ u).setCell ⟨w.heap.size + 1, 1, none⟩ v).setCell ⟨w.heap.size + 1, 2, none⟩ t)) := fun _ u v t h => ((h.set 0 u).set 1 v).set 2 t
  have HQ : Hid (∀ W, Below (w.heap.size + 2) w2 W → (W.cell? ⟨w.heap.size + 1, 0, none⟩ = some (.string ⟨#[]⟩) ∧ W.cell? ⟨w.heap.size + 1, 1, none⟩ = some (.slice none 0 0) ∧ W.cell? ⟨w.heap.size + 1, 2, none⟩ = some (.string ⟨#[]⟩)) ∧ W.frozen? ⟨w.heap.size + 1, 0, none⟩ = false ∧ W.frozen? ⟨w.heap.size + 1, 1, none⟩ = false ∧ W.frozen? ⟨w.heap.size + 1, 2, none⟩ = false) := fun W h => by
    obtain ⟨⟨q0, q1, q2⟩, f0, f1, f2⟩ := hq
    exact ⟨⟨(h.cell (by show w.heap.size + 1 < _; omega)).trans q0, (h.cell (by show w.heap.size + 1 < _; omega)).trans q1, (h.cell (by show w.heap.size + 1 < _; omega)).trans q2⟩, (h.frozen (by show w.heap.size + 1 < _; omega)).trans f0, (h.frozen (by show w.heap.size + 1 < _; omega)).trans f1, (h.frozen (by show w.heap.size + 1 < _; omega)).trans f2⟩
  have HFin : Hid (∀ (W : World) (p u v t : Value), SlAt (fun b => w.heap.size + 2 ≤ b ∧ b < W.heap.size) (StrAt W) 1 ps p → SlAt (fun b => w.heap.size ≤ b ∧ b < (((W.setCell ⟨w.heap.size + 1, 0, none⟩ u).setCell ⟨w.heap.size + 1, 1, none⟩ v).setCell ⟨w.heap.size + 1, 2, none⟩ t).heap.size) (StrAt (((W.setCell ⟨w.heap.size + 1, 0, none⟩ u).setCell ⟨w.heap.size + 1, 1, none⟩ v).setCell ⟨w.heap.size + 1, 2, none⟩ t)) 1 ps p) := fun W p u v t h => by
    have h1 := strSl_keep (keep_set (B := w.heap.size + 2) (g := w.heap.size + 1) (by omega) 0 u) h
    have h2 := strSl_keep (keep_set (B := w.heap.size + 2) (g := w.heap.size + 1) (by omega) 1 v) h1
    have h3 := strSl_keep (keep_set (B := w.heap.size + 2) (g := w.heap.size + 1) (by omega) 2 t) h2
    exact h3.imp (fun b hb => ⟨by omega, hb.2⟩) (fun _ _ _ _ _ h => h)
  clear hn hrs hp z0 z1 z2 z3 hr hwe p0 p1 p2 hbel hq
  go_enter Tryz.func62, Tryz.ntmps62
  go_wp2_with fail
  rw [HWe.out]
  clear HWe
  go_region_held3 (fun W => Below w.heap.size w W ∧ W.cell? ⟨w.heap.size, 0, none⟩ = some (.string x) ∧ W.cell? ⟨w.heap.size, 1, none⟩ = some (.slice a k cap) ∧ W.cell? ⟨w.heap.size, 2, none⟩ = some (.string y)) (first | exact HK0.out | exact HN.out _ _ (by assumption) (by assumption) | exact HN2.out _ _ _ _ (by assumption))
    (first
      | (go_at_call 109; refine (HCp.out _ (HB0.out _ HX.out).1 (HB0.out _ HX.out).2).mono ?_; rintro e w' ⟨u, rfl, hsl, hb'⟩; obtain ⟨a', n', cap', rfl⟩ := hsl.slice; have HP := veil hsl; clear hsl; replace HX := veil (HX.out.trans (hb'.mono (HB0.out _ HX.out).2)); obtain ⟨⟨g0, g1, g2⟩, g3, g4, g5⟩ := HQ.out _ HX.out)
      | (go_at_call_of 67 (Value.string x); refine (HCx.out _).mono ?_; rintro e w' ⟨rfl, hb'⟩; (try replace HP := veil (strSl_keep (keep_new hb') HP.out)); replace HX := veil (HX.out.trans (hb'.mono (HB0.out _ HX.out).2)); obtain ⟨⟨g0, g1, g2⟩, g3, g4, g5⟩ := HQ.out _ HX.out)
      | (go_at_call_of 67 (Value.string y); refine (HCy.out _).mono ?_; rintro e w' ⟨rfl, hb'⟩; (try replace HP := veil (strSl_keep (keep_new hb') HP.out)); replace HX := veil (HX.out.trans (hb'.mono (HB0.out _ HX.out).2)); obtain ⟨⟨g0, g1, g2⟩, g3, g4, g5⟩ := HQ.out _ HX.out))
  all_goals
    rename_i hHeld
    have HB := veil hHeld.1
    clear hHeld
    go_wp2_with fail
    exact bodyPost_ret (v := .agg #[.string x, .slice a' n' cap', .string y]) (by simp [results, Tryz.results62, go_sem, g0, g1, g2]) rfl ⟨a', n', cap', rfl, HFin.out _ _ _ _ _ HP.out, HB.out⟩

end Go.Proofs.YtagbaimfigljiaaGreatDoor
