import Derived.Test.YtagbaimfigljiaaGreatDoorJModuleUses12
import Derived.Test.YtagbaimfigljiaaGreatDoorJModuleUses13
import Derived.Test.YtagbaimfigljiaaGreatDoorJModuleUses0
import Derived.Test.YtagbaimfigljiaaGreatDoorProg
import Derived.Test.YtagbaimfigljiaaGreatDoorJModuleUses9
import Derived.Test.YtagbaimfigljiaaGreatDoorJModuleUses1
import Derived.Lib.Bytealg
import Derived.Deep.Slices
import Derived.SizedLaws
import Derived.ProofKit
import Derived.Deep.RegionWith
import GoSem.PinnedTables
import GoSem.Claim
import GoSem.ClaimJoined
import GoSem.ClaimMapViews
import Derived.JoinedTies
import Derived.KernelRfl
import Derived.RowKit
import Derived.WalkKit
import Derived.WalkLawsBesides
import Derived.Shelf.Abstract
import Derived.Lib.IndexLaws
import Derived.Deep.RegionHeld3
import Derived.Laws.IdiomCopy
import Derived.Laws.Rows
import Derived.Laws.MakeOwn
import Derived.OwnWalk
import Derived.Deep.Upon
namespace Go.Proofs.YtagbaimfigljiaaGreatDoor
open Go.RowKit
set_option maxRecDepth 100000

def noMo : Mo := ⟨[], [], []⟩
/-- what lines declare, one by one. -/
def readAll : List ByteArray → Mo → Except Int Mo
  | [], m => .ok m
  | s :: r, m => match lineRes s with
    | .error e => .error e
    | .ok d => readAll r (putLine m d)
def readErr (s : ByteArray) : Int := if 1500 < s.size then 1 else match readAll (linesOf s) noMo with
  | .error e => e
  | .ok m => moFault m
def readMo (s : ByteArray) : Mo := if 1500 < s.size then noMo else match readAll (linesOf s) noMo with
  | .error _ => noMo
  | .ok m => if moFault m = 0 then m else noMo

theorem noMo_is {S : Nat → Prop} {w : World} : MoIs S w noMo (.agg #[.slice none 0 0, .slice none 0 0, .slice none 0 0]) := ⟨_, _, _, rfl, none_sl, none_sl, none_sl⟩

theorem put_len {m : Mo} {d : Line} {k : Nat} (h : m.uses.length ≤ k ∧ m.types.length ≤ k ∧ m.funcs.length ≤ k) : (putLine m d).uses.length ≤ k + 1 ∧ (putLine m d).types.length ≤ k + 1 ∧ (putLine m d).funcs.length ≤ k + 1 := by
  cases d <;> simp [putLine] <;> omega

theorem linesOf_le (s : ByteArray) : (linesOf s).length ≤ s.size + 1 := by
  have h1 : 1 ≤ (⟨#[10]⟩ : ByteArray).size := Nat.le_refl _
  have hle := Lib.countB_le ⟨#[10]⟩ h1 s.size s (Nat.le_refl _)
  have hlen := Lib.splitB_all ⟨#[10]⟩ h1 0 _ s rfl
  unfold linesOf
  omega

/-- three cells of a block that is there take what is stored. -/
theorem three_set {w : World} {b : Nat} {x y z : Value} {T : TypeId} (h : w.heap[b]? = some (.cells #[x, y, z] T (0, 0))) (u v t : Value) :
    (((w.setCell ⟨b, 0, none⟩ u).setCell ⟨b, 1, none⟩ v).setCell ⟨b, 2, none⟩ t).cell? ⟨b, 0, none⟩ = some u ∧ (((w.setCell ⟨b, 0, none⟩ u).setCell ⟨b, 1, none⟩ v).setCell ⟨b, 2, none⟩ t).cell? ⟨b, 1, none⟩ = some v ∧ (((w.setCell ⟨b, 0, none⟩ u).setCell ⟨b, 1, none⟩ v).setCell ⟨b, 2, none⟩ t).cell? ⟨b, 2, none⟩ = some t := by
  have h3 := block_set (block_set (block_set h 0 u) 1 v) 2 t
  refine ⟨?_, ?_, ?_⟩ <;> (rw [cell_of_row _ b _ _ _ _ h3]; rfl)

/-- the list of what a module uses is its own. -/
def UsOwn (W : World) (B : Nat) (m : Mo) (v : Value) : Prop := ∃ u t f, v = .agg #[u, t, f] ∧ W.ownsRow B 9 1 u m.uses.length (m.uses.map Value.string)
theorem noMo_own {W : World} {B : Nat} : UsOwn W B noMo (.agg #[.slice none 0 0, .slice none 0 0, .slice none 0 0]) := ⟨_, _, _, rfl, World.ownsRow_nil _ _ _ _⟩
theorem stRow {base n1 : Nat} {S : Nat → Prop} {xs : List ByteArray} {v : Value} {ys : List Value} {W : World} (h : RowIs StC 9 1 base n1 S xs v ys W) : W.ownsRow base 9 1 v xs.length (xs.map Value.string) := by
  have e : ys = xs.map Value.string := by
    apply List.ext_getElem?
    intro j
    by_cases hj : j < xs.length
    · obtain ⟨cs, _, h2, rfl, _⟩ := h.items j hj
      have := h2 0 (by omega)
      rw [Nat.mul_one, Nat.add_zero] at this
      rw [this]
      simp [hj]
    · have hl : ys.length = xs.length * 1 := h.own.1
      rw [List.getElem?_eq_none (by omega), List.getElem?_eq_none (by rw [List.length_map]; omega)]
  rw [← e]
  exact h.own
theorem own_after {W W' : World} {B B' n : Nat} {v : Value} {ys : List Value} (h : W.ownsRow B 9 1 v n ys) (hb : Below W.heap.size W W') (hB : B' ≤ B) : W'.ownsRow B' 9 1 v n ys := by
  obtain ⟨hx, ⟨hv, hn⟩ | ⟨g, cap, cur, hv, hg, hh, h1⟩⟩ := h
  · exact ⟨hx, Or.inl ⟨hv, hn⟩⟩
  · refine ⟨hx, Or.inr ⟨g, cap, cur, hv, Nat.le_trans hB hg, ?_, h1⟩⟩
    rw [hb.block g ?_]
    · exact hh
    · rcases Nat.lt_or_ge g W.heap.size with h | h
      · exact h
      · rw [Array.getElem?_eq_none h] at hh
        cases hh

set_option maxHeartbeats 8000000 in
theorem read_full (s : ByteArray) (w : World) : Calls Tryz.prog 29 #[.string s] w fun e w' => Below w.heap.size w w' ∧ ∃ v, e = .returned (.tuple #[v, .int .i64 (readErr s)]) ∧ MoIs (Fresh w.heap.size w') w' (readMo s) v ∧ UsOwn w' w.heap.size (readMo s) v := by
  by_cases h15 : 1500 < s.size
  · have h15' : (1500 : Int) < (s.size : Int) := by omega
    have HE : Hid (readErr s = 1) := if_pos h15
    have HMo : Hid (readMo s = noMo) := if_pos h15
    go_enter Tryz.func29, Tryz.ntmps29
    go_wp2_with fail
    exact bodyPost_ret (v := .tuple #[.agg #[.slice none 0 0, .slice none 0 0, .slice none 0 0], .int .i64 1]) (by simp [results, Tryz.results29, go_sem]) rfl
      ⟨(Below.refl _ _).alloc (Nat.le_refl _) _, _, by rw [HE.out], by rw [HMo.out]; exact noMo_is, by rw [HMo.out]; exact noMo_own⟩
  · have h15' : ¬ (1500 : Int) < (s.size : Int) := by omega
    have hll := linesOf_le s
    have hE : readErr s = match readAll (linesOf s) noMo with
      | .error e => e
      | .ok m => moFault m := if_neg h15
    have hMo : readMo s = match readAll (linesOf s) noMo with
      | .error _ => noMo
      | .ok m => if moFault m = 0 then m else noMo := if_neg h15
    have HE := veil hE
    have HMo := veil hMo
    have HSp := veil (split_lines s (by omega) ((w.alloc (.cells #[.slice none 0 0, .slice none 0 0, .slice none 0 0] 44)).alloc (.cells #[.slice none 0 0, .slice none 0 0, .slice none 0 0] 44)))
    clear hE hMo
    generalize linesOf s = L at *
    have hw1 : ∃ w1, ((w.alloc (.cells #[.slice none 0 0, .slice none 0 0, .slice none 0 0] 44)).alloc (.cells #[.slice none 0 0, .slice none 0 0, .slice none 0 0] 44)).alloc (.cells (L.map Value.string).toArray 9) = w1 ∧ w1.heap.size = w.heap.size + 3 ∧
        w1.heap[w.heap.size]? = some (.cells #[.slice none 0 0, .slice none 0 0, .slice none 0 0] 44 (0, 0)) ∧ w1.heap[w.heap.size + 1]? = some (.cells #[.slice none 0 0, .slice none 0 0, .slice none 0 0] 44 (0, 0)) ∧ w1.heap[w.heap.size + 2]? = some (.cells (L.map Value.string).toArray 9 (0, 0)) ∧ Below w.heap.size w w1 := by
      have n0 : (w.alloc (.cells #[.slice none 0 0, .slice none 0 0, .slice none 0 0] 44)).heap.size = w.heap.size + 1 := by simp
      have n1 : ((w.alloc (.cells #[.slice none 0 0, .slice none 0 0, .slice none 0 0] 44)).alloc (.cells #[.slice none 0 0, .slice none 0 0, .slice none 0 0] 44)).heap.size = w.heap.size + 2 := by simp
      have a0 := heap_alloc_new w (.cells #[.slice none 0 0, .slice none 0 0, .slice none 0 0] 44)
      have a1 := heap_alloc_new (w.alloc (.cells #[.slice none 0 0, .slice none 0 0, .slice none 0 0] 44)) (.cells #[.slice none 0 0, .slice none 0 0, .slice none 0 0] 44)
      have a2 := heap_alloc_new ((w.alloc (.cells #[.slice none 0 0, .slice none 0 0, .slice none 0 0] 44)).alloc (.cells #[.slice none 0 0, .slice none 0 0, .slice none 0 0] 44)) (.cells (L.map Value.string).toArray 9)
      rw [n0] at a1
      rw [n1] at a2
      refine ⟨_, rfl, by simp, ?_, ?_, a2, (((Below.refl _ _).alloc (Nat.le_refl _) _).alloc (by omega) _).alloc (by omega) _⟩
      · rw [heap_alloc_old _ _ (by omega), heap_alloc_old _ _ (by omega)]; exact a0
      · rw [heap_alloc_old _ _ (by omega)]; exact a1
    obtain ⟨w1, hwe, hs1, p0, p1, p2, hbel⟩ := hw1
    have HP0 := veil p0
    have HP2 := veil p2
    have HBel := veil hbel
    have HM0 : Hid (ModAt (w.heap.size + 3) (w.heap.size + 1) (w.heap.size + 3) noMo (.slice none 0 0) (.slice none 0 0) (.slice none 0 0) w1) :=
      ⟨p1, by omega, by omega, by omega, ⟨[], ⟨rfl, Or.inl ⟨rfl, rfl⟩⟩, fun g h => (by cases h), fun j hj => absurd hj (by simp [noMo])⟩, ⟨[], ⟨rfl, Or.inl ⟨rfl, rfl⟩⟩, fun g h => (by cases h), fun j hj => absurd hj (by simp [noMo])⟩, ⟨[], ⟨rfl, Or.inl ⟨rfl, rfl⟩⟩, fun g h => (by cases h), fun j hj => absurd hj (by simp [noMo])⟩⟩
    clear p0 p1 p2 hbel
    go_enter Tryz.func29, Tryz.ntmps29
    go_wp2_with fail
    refine HSp.out.mono ?_
    rintro e wx ⟨rfl, hwx⟩
    rw [hwe] at hwx
    subst hwx
    clear hwe HSp
    go_wp2_with fail
    go_loopw [16] (fun i wr => ∃ k : Nat, k ≤ L.length ∧ i = .int .i64 k ∧ ∃ mo n1 vu vt vf, ModAt (w.heap.size + 3) (w.heap.size + 1) n1 mo vu vt vf wr ∧ (mo.uses.length ≤ k ∧ mo.types.length ≤ k ∧ mo.funcs.length ≤ k) ∧ readAll (L.drop k) mo = readAll L noMo ∧ BelowM (w.heap.size + 3) (w.heap.size + 1) wx wr) (fun i _ => L.length - (intOf i).toNat)
    case atStart => exact ⟨0, Nat.zero_le _, rfl, noMo, _, _, _, _, HM0.out, ⟨Nat.le_refl _, Nat.le_refl _, Nat.le_refl _⟩, rfl, ⟨rfl, rfl, rfl, Nat.le_refl _, fun _ _ _ => rfl⟩⟩
    case round =>
      obtain ⟨k, hk, rfl, mo, n1, vu, vt, vf, hmod, hlens, hra, hbm⟩ := hrel
      obtain ⟨hl1, hl2, hl3⟩ := hlens
      obtain ⟨yu, hyu⟩ := hmod.us
      obtain ⟨yt, hyt⟩ := hmod.ts
      obtain ⟨yf, hyf⟩ := hmod.fs
      obtain ⟨au, cu, hvu⟩ := own_slice hyu.own
      obtain ⟨at', ct, hvt⟩ := own_slice hyt.own
      obtain ⟨af, cf, hvf⟩ := own_slice hyf.own
      subst hvu hvt hvf
      clear hyu hyt hyf
      have HMod := veil hmod
      have HRa := veil hra
      have HBm := veil hbm
      have HZ : Hid (∀ W', BelowM (w.heap.size + 3) (w.heap.size + 1) wx W' → W'.heap[w.heap.size]? = some (.cells #[.slice none 0 0, .slice none 0 0, .slice none 0 0] 44 (0, 0))) := fun W' h => (h.block w.heap.size (by omega) (by omega)).trans HP0.out
      have HBw : Hid (∀ W', BelowM (w.heap.size + 3) (w.heap.size + 1) wx W' → Below w.heap.size w W') := fun W' h => HBel.out.trans ⟨h.os, h.tape, h.output, h.size, fun b hb => h.block b (by omega) (by omega)⟩
      by_cases hlt : k < L.length
      · have hlt' : (k : Int) < (L.length : Int) := by omega
        have c0 : wr.cell? ⟨w.heap.size + 1 + 1, k, none⟩ = some (.string (L[k]'hlt)) := by
          rw [cell_of_row wr (w.heap.size + 1 + 1) k _ _ _ ((hbm.block (w.heap.size + 2) (by omega) (by omega)).trans HP2.out)]
          simp [hlt]
        have hd : L.drop k = L[k]'hlt :: L.drop (k + 1) := List.drop_eq_getElem_cons hlt
        rw [hd, readAll] at HRa
        clear hd hmod hra hbm
        generalize L[k]'hlt = ln at *
        go_wp2_with fail
        refine (line_next ln (w.heap.size + 3) (w.heap.size + 1) n1 mo _ _ _ wr HMod.out (by omega) (by omega) (by omega)).mono ?_
        rintro e w' ⟨x, rfl, hbm', ⟨er, hr, rfl⟩ | ⟨d, hr, rfl, n1', vu', vt', vf', hmod'⟩⟩
        · rw [hr] at HRa
          have hne := lineRes_ne hr
          have hne' : (x != 0) = true := by simpa using hne
          have HE1 : Hid (readErr s = x) := by show _ = _; rw [HE.out, ← HRa.out]
          have HM1 : Hid (readMo s = noMo) := by show _ = _; rw [HMo.out, ← HRa.out]
          have hbx := HBm.out.trans hbm'
          have hz := HZ.out w' hbx
          have HBw1 := veil (HBw.out w' hbx)
          have HT := veil (three_set hz (.slice none 0 0) (.slice none 0 0) (.slice none 0 0))
          have z0 : w'.cell? ⟨w.heap.size, 0, none⟩ = some (.slice none 0 0) := by rw [cell_of_row w' _ 0 _ _ _ hz]; rfl
          have z1 : w'.cell? ⟨w.heap.size, 1, none⟩ = some (.slice none 0 0) := by rw [cell_of_row w' _ 1 _ _ _ hz]; rfl
          have z2 : w'.cell? ⟨w.heap.size, 2, none⟩ = some (.slice none 0 0) := by rw [cell_of_row w' _ 2 _ _ _ hz]; rfl
          have f0 := Lib.frozen_of_heap hz 0
          have f1 := Lib.frozen_of_heap hz 1
          have f2 := Lib.frozen_of_heap hz 2
          clear hr hne hbm' hbx hz HRa HE HMo HMod HBm c0
          go_wp2_with fail
          obtain ⟨q0, q1, q2⟩ := HT.out
          exact bodyPost_ret (v := .tuple #[.agg #[.slice none 0 0, .slice none 0 0, .slice none 0 0], .int .i64 x]) (by simp [results, Tryz.results29, go_sem, q0, q1, q2]) rfl
            ⟨((HBw1.out.setCell (p := ⟨w.heap.size, 0, none⟩) (Nat.le_refl _) _).setCell (p := ⟨w.heap.size, 1, none⟩) (Nat.le_refl _) _).setCell (p := ⟨w.heap.size, 2, none⟩) (Nat.le_refl _) _, _, by rw [HE1.out], by rw [HM1.out]; exact noMo_is, by rw [HM1.out]; exact noMo_own⟩
        · rw [hr] at HRa
          have HMod' := veil hmod'
          have HBm' := veil (HBm.out.trans hbm')
          have HL' := veil (put_len (m := mo) (d := d) (k := k) ⟨hl1, hl2, hl3⟩)
          clear hr hbm' hmod' HMod HBm c0
          go_wp2_with fail
          exact ⟨⟨k + 1, by omega, by go_num, putLine mo d, n1', vu', vt', vf', HMod'.out, HL'.out, HRa.out, HBm'.out⟩, by simp [intOf]; omega⟩
      · have hke : k = L.length := by omega
        have hnl : ¬ (k : Int) < (L.length : Int) := by omega
        rw [hke, List.drop_length, readAll] at HRa
        have hb1 := hmod.mod
        have c0 : wr.cell? ⟨w.heap.size + 1, 0, none⟩ = some (.slice au mo.uses.length cu) := by rw [cell_of_row wr _ 0 _ _ _ hb1]; rfl
        have c1 : wr.cell? ⟨w.heap.size + 1, 1, none⟩ = some (.slice at' mo.types.length ct) := by rw [cell_of_row wr _ 1 _ _ _ hb1]; rfl
        have c2 : wr.cell? ⟨w.heap.size + 1, 2, none⟩ = some (.slice af mo.funcs.length cf) := by rw [cell_of_row wr _ 2 _ _ _ hb1]; rfl
        have HIs := veil (hmod.is (by unfold maxLen; omega) (by unfold maxLen; omega) (by unfold maxLen; omega))
        have hsz : w.heap.size + 3 ≤ wr.heap.size := by have := hbm.size; omega
        have HUs : Hid (wr.ownsRow (w.heap.size + 3) 9 1 (.slice au mo.uses.length cu) mo.uses.length (mo.uses.map Value.string)) := by obtain ⟨yu, hyu⟩ := hmod.us; exact stRow hyu
        clear hmod hra hbm hb1
        go_wp2_with fail
        refine (treeCheck_any _ mo _ wr (fun b hb => hb.2) HIs.out).mono ?_
        rintro e w' ⟨rfl, hb⟩
        have hbx := HBm.out.trans (BelowM.of_below hb (by omega))
        have hz := HZ.out w' hbx
        have HBw1 := veil (HBw.out w' hbx)
        have HUs2 := veil (own_after HUs.out hb (Nat.le_refl _))
        have HIs2 := veil (HIs.out.keep (S' := Fresh (w.heap.size + 3) w') ⟨fun b hb' => hb.block b hb'.2, fun b hb' => ⟨hb'.1, Nat.lt_of_lt_of_le hb'.2 hb.size⟩⟩)
        have z0 : w'.cell? ⟨w.heap.size, 0, none⟩ = some (.slice none 0 0) := by rw [cell_of_row w' _ 0 _ _ _ hz]; rfl
        have z1 : w'.cell? ⟨w.heap.size, 1, none⟩ = some (.slice none 0 0) := by rw [cell_of_row w' _ 1 _ _ _ hz]; rfl
        have z2 : w'.cell? ⟨w.heap.size, 2, none⟩ = some (.slice none 0 0) := by rw [cell_of_row w' _ 2 _ _ _ hz]; rfl
        have d0 : w'.cell? ⟨w.heap.size + 1, 0, none⟩ = some (.slice au mo.uses.length cu) := (hb.cell (p := ⟨w.heap.size + 1, 0, none⟩) (by show w.heap.size + 1 < _; omega)).trans c0
        have d1 : w'.cell? ⟨w.heap.size + 1, 1, none⟩ = some (.slice at' mo.types.length ct) := (hb.cell (p := ⟨w.heap.size + 1, 1, none⟩) (by show w.heap.size + 1 < _; omega)).trans c1
        have d2 : w'.cell? ⟨w.heap.size + 1, 2, none⟩ = some (.slice af mo.funcs.length cf) := (hb.cell (p := ⟨w.heap.size + 1, 2, none⟩) (by show w.heap.size + 1 < _; omega)).trans c2
        have f0 := Lib.frozen_of_heap hz 0
        have f1 := Lib.frozen_of_heap hz 1
        have f2 := Lib.frozen_of_heap hz 2
        have HEm : Hid (readErr s = moFault mo) := by show _ = _; rw [HE.out, ← HRa.out]
        by_cases hmf : moFault mo = 0
        · have HM1 : Hid (readMo s = mo) := by show _ = _; rw [HMo.out, ← HRa.out]; exact if_pos hmf
          have HE1 : Hid (readErr s = 0) := HEm.out.trans hmf
          have HT := veil (three_set hz (.slice au mo.uses.length cu) (.slice at' mo.types.length ct) (.slice af mo.funcs.length cf))
          rw [hmf]
          clear hbx hz hb c0 c1 c2 HE HMo HMod HBm HRa HIs hmf
          go_wp2_with fail
          obtain ⟨q0, q1, q2⟩ := HT.out
          refine bodyPost_ret (v := .tuple #[.agg #[.slice au mo.uses.length cu, .slice at' mo.types.length ct, .slice af mo.funcs.length cf], .int .i64 0]) (by simp [results, Tryz.results29, go_sem, q0, q1, q2]) rfl
            ⟨((HBw1.out.setCell (p := ⟨w.heap.size, 0, none⟩) (Nat.le_refl _) _).setCell (p := ⟨w.heap.size, 1, none⟩) (Nat.le_refl _) _).setCell (p := ⟨w.heap.size, 2, none⟩) (Nat.le_refl _) _, _, by rw [HE1.out], ?_, ?_⟩
          · rw [HM1.out]
            refine HIs2.out.keep ⟨fun b hb' => ?_, fun b hb' => ⟨by have := hb'.1; omega, ?_⟩⟩
            · have h1 := hb'.1
              rw [Below.heap_setCell _ _ _ _ (by show b ≠ w.heap.size; omega), Below.heap_setCell _ _ _ _ (by show b ≠ w.heap.size; omega), Below.heap_setCell _ _ _ _ (by show b ≠ w.heap.size; omega)]
            · rw [heap_size_setCell, heap_size_setCell, heap_size_setCell]; exact hb'.2
          · rw [HM1.out]
            refine ⟨_, _, _, rfl, ?_⟩
            exact own_after (ownsRow_setCell_below (ownsRow_setCell_below (ownsRow_setCell_below HUs2.out (a := ⟨w.heap.size, 0, none⟩) (by show w.heap.size < _; omega) _) (a := ⟨w.heap.size, 1, none⟩) (by show w.heap.size < _; omega) _) (a := ⟨w.heap.size, 2, none⟩) (by show w.heap.size < _; omega) _) (Below.refl _ _) (by omega)
        · have hne' : (moFault mo != 0) = true := by simpa using hmf
          have HM1 : Hid (readMo s = noMo) := by show _ = _; rw [HMo.out, ← HRa.out]; exact if_neg hmf
          have HT := veil (three_set hz (.slice none 0 0) (.slice none 0 0) (.slice none 0 0))
          clear hbx hz hb c0 c1 c2 HE HMo HMod HBm HRa HIs hmf
          generalize moFault mo = y at *
          go_wp2_with fail
          obtain ⟨q0, q1, q2⟩ := HT.out
          exact bodyPost_ret (v := .tuple #[.agg #[.slice none 0 0, .slice none 0 0, .slice none 0 0], .int .i64 y]) (by simp [results, Tryz.results29, go_sem, q0, q1, q2]) rfl
            ⟨((HBw1.out.setCell (p := ⟨w.heap.size, 0, none⟩) (Nat.le_refl _) _).setCell (p := ⟨w.heap.size, 1, none⟩) (Nat.le_refl _) _).setCell (p := ⟨w.heap.size, 2, none⟩) (Nat.le_refl _) _, _, by rw [HEm.out], by rw [HM1.out]; exact noMo_is, by rw [HM1.out]; exact noMo_own⟩

end Go.Proofs.YtagbaimfigljiaaGreatDoor
namespace Go.Proofs.YtagbaimfigljiaaGreatDoor
open Go.RowKit
set_option maxRecDepth 100000

structure Kn where
  name : ByteArray
  is : ByteArray
structure Sg where
  name : ByteArray
  params : List ByteArray
  result : ByteArray
structure Fc where
  types : List Kn
  funcs : List Sg
structure Im where
  name : ByteArray
  there : Bool
  face : Fc

instance : Inhabited Kn := ⟨⟨.empty, .empty⟩⟩
instance : Inhabited Sg := ⟨⟨.empty, [], .empty⟩⟩
instance : Inhabited Im := ⟨⟨.empty, false, ⟨[], []⟩⟩⟩

/-! ### How they lie in memory. -/

def KnAt (w : World) (k : Kn) (b o : Nat) : Prop := StrAt w k.name b o ∧ StrAt w k.is b (o + 1)
def SgAt (S : Nat → Prop) (w : World) (g : Sg) (b o : Nat) : Prop :=
  StrAt w g.name b o ∧ (∃ v, w.cell? ⟨b, o + 1, none⟩ = some v ∧ SlAt S (StrAt w) 1 g.params v) ∧ StrAt w g.result b (o + 2)
def SgIs (S : Nat → Prop) (w : World) (g : Sg) (v : Value) : Prop := ∃ vp, v = .agg #[.string g.name, vp, .string g.result] ∧ g.name.size ≤ maxLen ∧ g.result.size ≤ maxLen ∧ SlAt S (StrAt w) 1 g.params vp
/-- the two lists of a face. -/
def FcCs (S : Nat → Prop) (w : World) (f : Fc) (vt vf : Value) : Prop := SlAt S (KnAt w) 2 f.types vt ∧ SlAt S (SgAt S w) 3 f.funcs vf
def FcIs (S : Nat → Prop) (w : World) (f : Fc) (v : Value) : Prop := ∃ vt vf, v = .agg #[vt, vf] ∧ FcCs S w f vt vf
def ImAt (S : Nat → Prop) (w : World) (i : Im) (b o : Nat) : Prop :=
  StrAt w i.name b o ∧ w.cell? ⟨b, o + 1, none⟩ = some (.bool i.there) ∧ ∃ vt vf, w.cell? ⟨b, o + 2, none⟩ = some vt ∧ w.cell? ⟨b, o + 3, none⟩ = some vf ∧ FcCs S w i.face vt vf

theorem KnAt.keep {S S' : Nat → Prop} {w w' : World} (hk : Keeps S S' w w') {k : Kn} {b o : Nat} (hb : S b) (h : KnAt w k b o) : KnAt w' k b o := ⟨StrAt.keep hk hb h.1, StrAt.keep hk hb h.2⟩
theorem knSl_keep {S S' : Nat → Prop} {w w' : World} (hk : Keeps S S' w w') {l : List Kn} {v : Value} (h : SlAt S (KnAt w) 2 l v) : SlAt S' (KnAt w') 2 l v := h.imp hk.sub fun _ _ _ _ hb' h => KnAt.keep hk hb' h
theorem SgAt.keep {S S' : Nat → Prop} {w w' : World} (hk : Keeps S S' w w') {g : Sg} {b o : Nat} (hb : S b) (h : SgAt S w g b o) : SgAt S' w' g b o := by
  obtain ⟨h0, ⟨v, hv, hp⟩, h1⟩ := h
  exact ⟨StrAt.keep hk hb h0, ⟨v, by rwa [hk.cell hb], strSl_keep hk hp⟩, StrAt.keep hk hb h1⟩
theorem sgSl_keep {S S' : Nat → Prop} {w w' : World} (hk : Keeps S S' w w') {l : List Sg} {v : Value} (h : SlAt S (SgAt S w) 3 l v) : SlAt S' (SgAt S' w') 3 l v := h.imp hk.sub fun _ _ _ _ hb' h => SgAt.keep hk hb' h
theorem SgIs.keep {S S' : Nat → Prop} {w w' : World} (hk : Keeps S S' w w') {g : Sg} {v : Value} (h : SgIs S w g v) : SgIs S' w' g v := by
  obtain ⟨vp, rfl, h1, h2, h3⟩ := h
  exact ⟨vp, rfl, h1, h2, strSl_keep hk h3⟩
theorem FcCs.keep {S S' : Nat → Prop} {w w' : World} (hk : Keeps S S' w w') {f : Fc} {vt vf : Value} (h : FcCs S w f vt vf) : FcCs S' w' f vt vf := ⟨knSl_keep hk h.1, sgSl_keep hk h.2⟩
theorem FcIs.keep {S S' : Nat → Prop} {w w' : World} (hk : Keeps S S' w w') {f : Fc} {v : Value} (h : FcIs S w f v) : FcIs S' w' f v := by
  obtain ⟨vt, vf, rfl, h1⟩ := h
  exact ⟨vt, vf, rfl, h1.keep hk⟩
theorem ImAt.keep {S S' : Nat → Prop} {w w' : World} (hk : Keeps S S' w w') {i : Im} {b o : Nat} (hb : S b) (h : ImAt S w i b o) : ImAt S' w' i b o := by
  obtain ⟨h0, h1, vt, vf, h2, h3, h4⟩ := h
  exact ⟨StrAt.keep hk hb h0, by rwa [hk.cell hb], vt, vf, by rwa [hk.cell hb], by rwa [hk.cell hb], h4.keep hk⟩
/-! ### When two are the same. -/

def sEq (a b : ByteArray) : Bool := a.toList == b.toList
theorem sEq_refl (a : ByteArray) : sEq a a = true := by simp [sEq]
theorem SlAt.len {α : Type} {S : Nat → Prop} {P : α → Nat → Nat → Prop} {c : Nat} {l : List α} {v : Value} (h : SlAt S P c l v) : l.length ≤ maxLen := by
  obtain ⟨_, _, _, h, _⟩ := h
  exact h.1
theorem SlAt.is {α : Type} {S : Nat → Prop} {P : α → Nat → Nat → Prop} {c : Nat} {l : List α} {v : Value} (h : SlAt S P c l v) : ∃ a cap, v = .slice a l.length cap := by
  obtain ⟨a, cap, rfl, _⟩ := h
  exact ⟨a, cap, rfl⟩
/-- the k-th of a list that has so many. -/
theorem SlAt.at {α : Type} {S : Nat → Prop} {P : α → Nat → Nat → Prop} {c : Nat} {l : List α} {a : Option Addr} {n cap : Nat} (h : SlAt S P c l (.slice a n cap)) {k : Nat} (hk : k < l.length) :
    n = l.length ∧ ∃ b o, a = some ⟨b, o, none⟩ ∧ S b ∧ P l[k] b (o + k * c) := by
  obtain ⟨a', cap', e, _, h⟩ := h
  injection e with e1 e2 e3
  subst e1 e2
  rcases h with h | ⟨b, o, rfl, hb, hr⟩
  · omega
  · exact ⟨rfl, b, o, rfl, hb, hr.get k hk⟩

end Go.Proofs.YtagbaimfigljiaaGreatDoor
namespace Go.Proofs.YtagbaimfigljiaaGreatDoor
open Go.RowKit
set_option maxRecDepth 100000

section
variable {H : Type} {enc : TypeId × Value → H} {W : World} {base : Nat} {spare : Nat → Bool} {held : Bool}

end
end Go.Proofs.YtagbaimfigljiaaGreatDoor
namespace Go.Proofs.YtagbaimfigljiaaGreatDoor
open Go.RowKit
set_option maxRecDepth 100000

end Go.Proofs.YtagbaimfigljiaaGreatDoor
namespace Go.Proofs.YtagbaimfigljiaaGreatDoor
open Go.RowKit
set_option maxRecDepth 100000

end Go.Proofs.YtagbaimfigljiaaGreatDoor
namespace Go.Proofs.YtagbaimfigljiaaGreatDoor
open Go.RowKit
set_option maxRecDepth 100000

/-- the place of the first such one; behind all, where there is none. -/
def findAt {α : Type} (p : α → Bool) : List α → Nat
  | [] => 0
  | x :: r => if p x = true then 0 else findAt p r + 1

theorem find_yes {α : Type} {p : α → Bool} {l : List α} {k : Nat} (hk : k < l.length) (h : p l[k] = true) : findAt p (l.drop k) = 0 := by
  rw [List.drop_eq_getElem_cons hk, findAt, if_pos h]
theorem find_no {α : Type} {p : α → Bool} {l : List α} {k : Nat} (hk : k < l.length) (h : p l[k] = false) : findAt p (l.drop k) = findAt p (l.drop (k + 1)) + 1 := by
  rw [List.drop_eq_getElem_cons hk, findAt, if_neg (by rw [h]; simp)]
theorem find_end {α : Type} {p : α → Bool} {l : List α} {k : Nat} (hk : l.length ≤ k) : findAt p (l.drop k) = 0 := by
  rw [List.drop_eq_nil_of_le hk, findAt]

end Go.Proofs.YtagbaimfigljiaaGreatDoor
namespace Go.Proofs.YtagbaimfigljiaaGreatDoor
open Go.RowKit
set_option maxRecDepth 100000

def hasS (l : List ByteArray) (s : ByteArray) : Bool := decide (findAt (fun x => sEq x s) l < l.length)

set_option maxHeartbeats 2000000 in
theorem hasText_any (S : Nat → Prop) (l : List ByteArray) (s : ByteArray) (v : Value) (w : World) (hS : ∀ b, S b → b < w.heap.size) (hv : SlAt S (StrAt w) 1 l v) :
    Calls Tryz.prog 33 #[v, .string s] w fun e w' => e = .returned (.bool (hasS l s)) ∧ Below w.heap.size w w' := by
  have HV := veil hv
  have hlen := hv.len
  unfold maxLen at hlen
  obtain ⟨a, cap, rfl⟩ := hv.is
  clear hv
  go_enter Tryz.func33, Tryz.ntmps33
  go_wp2_with fail
  go_loopw [5] (fun i wr => ∃ j : Nat, j ≤ l.length ∧ i = .int .i64 j ∧ findAt (fun x => sEq x s) l = j + findAt (fun x => sEq x s) (l.drop j) ∧ wr = w) (fun i _ => l.length - (intOf i).toNat)
  case atStart => exact ⟨0, Nat.zero_le _, rfl, (Nat.zero_add _).symm, rfl⟩
  case round =>
    obtain ⟨j, hj, rfl, hq, rfl⟩ := hrel
    have HQ := veil hq
    clear hq
    by_cases hlt : j < l.length
    · have hlt' : (j : Int) < (l.length : Int) := by omega
      obtain ⟨_, b, off, rfl, hb, a0, m0⟩ := HV.out.at hlt
      have hbk := hS b hb
      rw [Nat.mul_one] at a0
      have HYes : Hid ((l[j].toList == s.toList) = true → hasS l s = true) := fun h => by
        unfold hasS
        rw [HQ.out, find_yes hlt h]; simpa using hlt
      have HNo : Hid ((l[j].toList == s.toList) = false → findAt (fun x => sEq x s) l = (j + 1) + findAt (fun x => sEq x s) (l.drop (j + 1))) := fun h => by
        rw [HQ.out, find_no hlt h]; omega
      clear m0 HV HQ
      generalize l[j] = x at *
      cases hx : (x.toList == s.toList) with
      | true =>
        have HI := veil (HYes.out hx)
        clear HYes HNo
        go_wp2_with fail
        go_ret
        exact ⟨by rw [HI.out]; rfl, Below.refl _ _⟩
      | false =>
        have HN := veil (HNo.out hx)
        clear HYes HNo
        go_wp2_with fail
        exact ⟨⟨j + 1, by omega, by go_num, HN.out, by simp⟩, by simp [intOf]; omega⟩
    · have hnl : ¬ (j : Int) < (l.length : Int) := by omega
      have HI : Hid (hasS l s = false) := by
        show _ = _
        unfold hasS
        rw [HQ.out, find_end (by omega)]; simp; omega
      clear HV HQ
      go_wp2_with fail
      go_ret
      exact ⟨by rw [HI.out]; rfl, Below.refl _ _⟩

end Go.Proofs.YtagbaimfigljiaaGreatDoor
namespace Go.Proofs.YtagbaimfigljiaaGreatDoor
open Go.RowKit
set_option maxRecDepth 100000

end Go.Proofs.YtagbaimfigljiaaGreatDoor
namespace Go.Proofs.YtagbaimfigljiaaGreatDoor
open Go.RowKit
set_option maxRecDepth 100000

end Go.Proofs.YtagbaimfigljiaaGreatDoor
namespace Go.Proofs.YtagbaimfigljiaaGreatDoor
open Go.RowKit
set_option maxRecDepth 100000

/-- what copyType's region keeps. -/
def KnBox (w : World) (x y : ByteArray) (W : World) : Prop :=
  Below w.heap.size w W ∧ W.cell? ⟨w.heap.size, 0, none⟩ = some (.string x) ∧ W.cell? ⟨w.heap.size, 1, none⟩ = some (.string y)

theorem KnBox.later {w : World} {x y : ByteArray} {W W' : World} (h : KnBox w x y W) (hb : Below W.heap.size W W') : KnBox w x y W' := by
  obtain ⟨h0, h1, h2⟩ := h
  exact ⟨h0.trans (hb.mono h0.size), (hb.cell (World.block_lt_of_cell? _ _ h1)).trans h1, (hb.cell (World.block_lt_of_cell? _ _ h2)).trans h2⟩

theorem KnBox.stored {w : World} {x y : ByteArray} {W : World} (h : KnBox w x y W) (u v : Value) : KnBox w x y ((W.setCell ⟨w.heap.size + 1, 0, none⟩ u).setCell ⟨w.heap.size + 1, 1, none⟩ v) := by
  obtain ⟨h0, h1, h2⟩ := h
  refine ⟨(h0.setCell (by show w.heap.size ≤ w.heap.size + 1; omega) _).setCell (by show w.heap.size ≤ w.heap.size + 1; omega) _, ?_, ?_⟩
  · rw [World.cell?_setCell_far _ _ _ _ (by show w.heap.size + 1 ≠ w.heap.size; omega), World.cell?_setCell_far _ _ _ _ (by show w.heap.size + 1 ≠ w.heap.size; omega)]; exact h1
  · rw [World.cell?_setCell_far _ _ _ _ (by show w.heap.size + 1 ≠ w.heap.size; omega), World.cell?_setCell_far _ _ _ _ (by show w.heap.size + 1 ≠ w.heap.size; omega)]; exact h2

end Go.Proofs.YtagbaimfigljiaaGreatDoor
namespace Go.Proofs.YtagbaimfigljiaaGreatDoor
open Go.RowKit
set_option maxRecDepth 100000

theorem size_setCell' (w : World) (a : Addr) (u : Value) : (w.setCell a u).heap.size = w.heap.size := by simp [World.setCell]
theorem size_setCells' (g : Nat) : ∀ (vs : List Value) (o : Nat) (w : World), (w.setCells g o vs).heap.size = w.heap.size
  | [], _, _ => rfl
  | v :: r, o, w => by rw [World.setCells, size_setCells' g r]; exact size_setCell' _ _ _
theorem below_setCells {B : Nat} {w : World} (g : Nat) (hg : B ≤ g) : ∀ (vs : List Value) (o : Nat) {W : World}, Below B w W → Below B w (W.setCells g o vs)
  | [], _, _, h => h
  | v :: r, o, W, h => by
    rw [World.setCells]
    exact below_setCells g hg r (o + 1) (h.setCell hg v)

theorem row_set {w : World} {g : Nat} {cur : Array Value} {e : TypeId} (h : w.heap[g]? = some (.cells cur e (0, 0))) (o : Nat) (u : Value) :
    (w.setCell ⟨g, o, none⟩ u).heap[g]? = some (.cells (cur.setIfInBounds o u) e (0, 0)) := by
  simp [World.setCell, Array.getElem?_modify, h]
theorem row_sets {g : Nat} {e : TypeId} : ∀ (vs : List Value) {w : World} {cur : Array Value} (_ : w.heap[g]? = some (.cells cur e (0, 0))) (o : Nat), ∃ cur', (w.setCells g o vs).heap[g]? = some (.cells cur' e (0, 0)) ∧ cur'.size = cur.size
  | [], _, cur, h, _ => ⟨cur, h, rfl⟩
  | v :: r, w, cur, h, o => by
    rw [World.setCells]
    obtain ⟨c, h1, h2⟩ := row_sets r (row_set h o v) (o + 1)
    exact ⟨c, h1, by rw [h2]; simp⟩

/-- the row in the first new block holds the first j of l. -/
structure RowJ {α : Type} (w : World) (e : TypeId) (c : Nat) (P : World → α → Nat → Prop) (l : List α) (j : Nat) (W : World) : Prop where
  bel : Below w.heap.size w W
  row : ∃ cur, W.heap[w.heap.size]? = some (.cells cur e (0, 0)) ∧ cur.size = l.length * c
  old : ∀ i (hi : i < l.length), i < j → P W l[i] (i * c)

/-- what is said of an element stands as long as its own cells, and all blocks but the row's, are as they were. -/
def Stays {α : Type} (B c : Nat) (P : World → α → Nat → Prop) : Prop :=
  ∀ (W W' : World) (x : α) (o : Nat), (∀ b, b ≠ B → b < W.heap.size → W'.heap[b]? = W.heap[b]?) → W.heap.size ≤ W'.heap.size → (∀ k, k < c → W'.cell? ⟨B, o + k, none⟩ = W.cell? ⟨B, o + k, none⟩) → P W x o → P W' x o

theorem RowJ.start {α : Type} {w : World} {e : TypeId} {c : Nat} {P : World → α → Nat → Prop} {l : List α} {arr : Array Value} (h : arr.size = l.length * c) : RowJ w e c P l 0 (w.alloc (.cells arr e)) :=
  ⟨(Below.refl _ _).alloc (Nat.le_refl _) _, ⟨arr, heap_alloc_new _ _, h⟩, fun _ _ h => absurd h (Nat.not_lt_zero _)⟩

theorem row_lt {W : World} {b : Nat} {o : Obj} (h : W.heap[b]? = some o) : b < W.heap.size := by
  rcases Nat.lt_or_ge b W.heap.size with h1 | h1
  · exact h1
  · rw [Array.getElem?_eq_none h1] at h
    cases h

theorem RowJ.lt {α : Type} {w : World} {e : TypeId} {c : Nat} {P : World → α → Nat → Prop} {l : List α} {j : Nat} {W : World} (h : RowJ w e c P l j W) : w.heap.size < W.heap.size := by
  obtain ⟨cur, h1, _⟩ := h.row
  exact row_lt h1

/-- where the next element goes. -/
theorem RowJ.room {α : Type} {w : World} {e : TypeId} {c : Nat} {P : World → α → Nat → Prop} {l : List α} {j : Nat} {W W1 : World} (h : RowJ w e c P l j W) (hb : Below W.heap.size W W1) (hj : j < l.length) : ∀ k, k < c → (∃ u, W1.cell? ⟨w.heap.size, j * c + k, none⟩ = some u) ∧ W1.frozen? ⟨w.heap.size, j * c + k, none⟩ = false := by
  intro k hk
  obtain ⟨cur, h1, h2⟩ := h.row
  have h3 := (hb.block _ h.lt).trans h1
  have hlt : j * c + k < cur.size := by
    rw [h2]
    have := Nat.mul_le_mul_right c (show j + 1 ≤ l.length from hj)
    rw [Nat.add_mul] at this
    omega
  exact ⟨⟨cur[j * c + k], by rw [cell_of_row _ _ _ _ _ _ h3, Array.getElem?_eq_getElem hlt]⟩, frozen_of_row _ _ _ _ _ h3⟩

theorem RowJ.step {α : Type} {w : World} {e : TypeId} {c : Nat} {P : World → α → Nat → Prop} {l : List α} {j : Nat} {W W1 : World} (h : RowJ w e c P l j W) (hS : Stays w.heap.size c P) (hb : Below W.heap.size W W1) (hj : j < l.length) (vs : List Value) (hv : vs.length = c)
    (hP : (∀ k (hk : k < vs.length), (W1.setCells w.heap.size (j * c) vs).cell? ⟨w.heap.size, j * c + k, none⟩ = some vs[k]) → (∀ b, b ≠ w.heap.size → b < W1.heap.size → (W1.setCells w.heap.size (j * c) vs).heap[b]? = W1.heap[b]?) → (W1.setCells w.heap.size (j * c) vs).heap.size = W1.heap.size → P (W1.setCells w.heap.size (j * c) vs) l[j] (j * c)) :
    RowJ w e c P l (j + 1) (W1.setCells w.heap.size (j * c) vs) := by
  have hlt := h.lt
  obtain ⟨cur, h1, h2⟩ := h.row
  have h3 := (hb.block _ hlt).trans h1
  have hin : ∀ k (hk : k < vs.length), (W1.setCells w.heap.size (j * c) vs).cell? ⟨w.heap.size, j * c + k, none⟩ = some vs[k] := fun k hk =>
    World.cell?_setCells_in _ vs _ W1 (fun k hk => by
      obtain ⟨⟨u, hu⟩, _⟩ := h.room hb hj k (by omega)
      rw [hu]; rfl) k hk
  have hoth : ∀ b, b ≠ w.heap.size → b < W1.heap.size → (W1.setCells w.heap.size (j * c) vs).heap[b]? = W1.heap[b]? := fun b hne hlt => World.heap_setCells_other _ _ _ _ hlt hne
  refine ⟨below_setCells _ (Nat.le_refl _) vs _ (h.bel.trans (hb.mono h.bel.size)), ?_, fun i hi hij => ?_⟩
  · obtain ⟨cur', h4, h5⟩ := row_sets vs h3 (j * c)
    exact ⟨cur', h4, h5.trans h2⟩
  · by_cases he : i = j
    · subst he
      exact hP hin hoth (size_setCells' _ _ _ _)
    · refine hS W _ _ _ (fun b hne hlt => ?_) (by rw [size_setCells']; exact hb.size) (fun k hk => ?_) (h.old i hi (by omega))
      · rw [hoth b hne (Nat.lt_of_lt_of_le hlt hb.size), hb.block b hlt]
      · rw [World.cell?_setCells_out _ vs _ _ _ (fun _ _ => Or.inl (by
          show i * c + k < j * c
          have := Nat.mul_le_mul_right c (show i + 1 ≤ j by omega)
          rw [Nat.add_mul] at this
          omega))]
        exact hb.cell (p := ⟨w.heap.size, _, none⟩) hlt

/-- the row is whole. -/
theorem RowJ.whole {α : Type} {w : World} {e : TypeId} {c : Nat} {P : World → α → Nat → Prop} {l : List α} {W : World} (h : RowJ w e c P l l.length W) (hl : l.length ≤ maxLen) {S : Nat → Prop} (hS : S w.heap.size) {Q : α → Nat → Nat → Prop} (hQ : ∀ x o, P W x o → Q x w.heap.size o) :
    SlAt S Q c l (.slice (some ⟨w.heap.size, 0, none⟩) l.length l.length) :=
  ⟨_, _, rfl, ⟨hl, Nat.le_refl _⟩, Or.inr ⟨_, _, rfl, hS, RowAt.mk fun i hi => by rw [Nat.zero_add]; exact hQ _ _ (h.old i hi hi)⟩⟩

end Go.Proofs.YtagbaimfigljiaaGreatDoor
namespace Go.Proofs.YtagbaimfigljiaaGreatDoor
open Go.RowKit
set_option maxRecDepth 100000

theorem str_info : (Tryz.prog.info? 9).map (fun i => (i.zero, i.size, i.bytes)) = some (some (.string ⟨#[]⟩), 1, 16) := by kernel_rfl
end Go.Proofs.YtagbaimfigljiaaGreatDoor
namespace Go.Proofs.YtagbaimfigljiaaGreatDoor
open Go.RowKit
set_option maxRecDepth 100000

def txVals (l : List ByteArray) : List Value := l.map Value.string
theorem tx_snoc (l : List ByteArray) (x : ByteArray) : txVals (l ++ [x]) = txVals l ++ [.string x] := by simp [txVals]
theorem tx_one (s : ByteArray) : ∀ u ∈ ([.string s] : List Value), u.oneCell' = true := fun u hu => by simp at hu; subst hu; rfl
theorem tx_new (w : World) (s : ByteArray) : ∀ j u, ([.string s] : List Value)[j]? = some u → (w.alloc (.cells #[.string s] 9)).cell? ((⟨w.heap.size, 0, none⟩ : Addr).add j) = some u := fun j u h => by
  match j, h with
  | 0, h => cases h; simp [go_sem, Addr.add]
theorem tx_row {w : World} {B : Nat} {v : Value} {l : List ByteArray} (h : w.ownsRow B 9 1 v l.length (txVals l)) (hl : l.length ≤ maxLen) (hs : ∀ t ∈ l, t.size ≤ maxLen) : SlAt (fun b => B ≤ b ∧ b < w.heap.size) (StrAt w) 1 l v := by
  obtain ⟨hx, ⟨hv, hn⟩ | ⟨g, cap, cur, hv, hg, hh, h1, h2, h3, h4⟩⟩ := h
  · subst hv
    exact ⟨none, 0, by rw [hn], ⟨hl, by omega⟩, Or.inl hn⟩
  · subst hv
    refine ⟨_, cap, rfl, ⟨hl, h1⟩, Or.inr ⟨g, 0, rfl, ⟨hg, ?_⟩, RowAt.mk fun i hi => ?_⟩⟩
    · rcases Nat.lt_or_ge g w.heap.size with h | h
      · exact h
      · rw [Array.getElem?_eq_none h] at hh
        cases hh
    · have hc : ∀ j u, (txVals l)[j]? = some u → w.cell? ⟨g, j, none⟩ = some u := fun j u hj => by
        rw [← h4] at hj
        have hj' : j < l.length * 1 := by
          rcases Nat.lt_or_ge j (l.length * 1) with h | h
          · exact h
          · rw [List.getElem?_eq_none (by rw [List.length_take]; omega)] at hj
            cases hj
        rw [List.getElem?_take_of_lt hj'] at hj
        simpa [World.cell?, hh] using hj
      rw [Nat.zero_add, Nat.mul_one]
      exact ⟨hc i _ (by simp [txVals, List.getElem?_eq_getElem hi]), hs _ (List.getElem_mem hi)⟩

theorem ownsTx_at {w : World} {B : Nat} {u : Value} {n : Nat} {xs : List Value} (h : w.ownsRow B 9 1 u n xs) : ∀ j, u.ownBlock = some j → B ≤ j := fun j hj => by
  obtain ⟨_, ⟨hv, _⟩ | ⟨g, cap, cur, hv, hg, _⟩⟩ := h
  · subst hv; cases hj
  · subst hv
    have : g = j := by simpa [Value.ownBlock] using hj
    omega
theorem ownsTx_later {w w' : World} {B : Nat} {u : Value} {n : Nat} {xs : List Value} (h : w.ownsRow B 9 1 u n xs) (hb : Below w.heap.size w w') : w'.ownsRow B 9 1 u n xs := by
  obtain ⟨hx, ⟨hv, hn⟩ | ⟨g, cap, cur, hv, hg, hh, h1⟩⟩ := h
  · exact ⟨hx, Or.inl ⟨hv, hn⟩⟩
  · refine ⟨hx, Or.inr ⟨g, cap, cur, hv, hg, ?_, h1⟩⟩
    rw [hb.block g ?_]
    · exact hh
    · rcases Nat.lt_or_ge g w.heap.size with h | h
      · exact h
      · rw [Array.getElem?_eq_none h] at hh
        cases hh

end Go.Proofs.YtagbaimfigljiaaGreatDoor
namespace Go.Proofs.YtagbaimfigljiaaGreatDoor
open Go.RowKit
set_option maxRecDepth 100000

/-- is s above p? -/
def gtB (s p : ByteArray) : Bool := !Op.bytesLess s.toList p.toList && !(s.toList == p.toList)

end Go.Proofs.YtagbaimfigljiaaGreatDoor
