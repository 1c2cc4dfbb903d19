/- What tree.Read answers, at every text: what is wrong first, or the module. -/
import Derived.Test.YtpamadnckijfkabGreatDoorReadNe
import Derived.Test.YtpamadnckijfkabGreatDoorSplitLine
import Derived.Test.YtpamadnckijfkabGreatDoorCheckTree
namespace Go.Proofs.YtpamadnckijfkabGreatDoor
open Go.RowKit
set_option maxRecDepth 100000

def noMo : Mo := ⟨[], [], []⟩
/-- what lines declare, one by one. -/
def readAll : List ByteArray → Mo → Except Int Mo
  | [], m => .ok m
  | s :: r, m => match lineRes s with
    | .error e => .error e
    | .ok d => readAll r (putLine m d)
def readErr (s : ByteArray) : Int := if 1500 < s.size then 1 else match readAll (linesOf s) noMo with
  | .error e => e
  | .ok m => moFault m
def readMo (s : ByteArray) : Mo := if 1500 < s.size then noMo else match readAll (linesOf s) noMo with
  | .error _ => noMo
  | .ok m => if moFault m = 0 then m else noMo

theorem noMo_is {S : Nat → Prop} {w : World} : MoIs S w noMo (.agg #[.slice none 0 0, .slice none 0 0, .slice none 0 0]) := ⟨_, _, _, rfl, none_sl, none_sl, none_sl⟩

theorem put_len {m : Mo} {d : Line} {k : Nat} (h : m.uses.length ≤ k ∧ m.types.length ≤ k ∧ m.funcs.length ≤ k) : (putLine m d).uses.length ≤ k + 1 ∧ (putLine m d).types.length ≤ k + 1 ∧ (putLine m d).funcs.length ≤ k + 1 := by
  cases d <;> simp [putLine] <;> omega

theorem linesOf_le (s : ByteArray) : (linesOf s).length ≤ s.size + 1 := by
  have h1 : 1 ≤ (⟨#[10]⟩ : ByteArray).size := Nat.le_refl _
  have hle := Lib.countB_le ⟨#[10]⟩ h1 s.size s (Nat.le_refl _)
  have hlen := Lib.splitB_all ⟨#[10]⟩ h1 0 _ s rfl
  unfold linesOf
  omega

/-- three cells of a block that is there take what is stored. -/
theorem three_set {w : World} {b : Nat} {x y z : Value} {T : TypeId} (h : w.heap[b]? = some (.cells #[x, y, z] T (0, 0))) (u v t : Value) :
    (((w.setCell ⟨b, 0, none⟩ u).setCell ⟨b, 1, none⟩ v).setCell ⟨b, 2, none⟩ t).cell? ⟨b, 0, none⟩ = some u ∧ (((w.setCell ⟨b, 0, none⟩ u).setCell ⟨b, 1, none⟩ v).setCell ⟨b, 2, none⟩ t).cell? ⟨b, 1, none⟩ = some v ∧ (((w.setCell ⟨b, 0, none⟩ u).setCell ⟨b, 1, none⟩ v).setCell ⟨b, 2, none⟩ t).cell? ⟨b, 2, none⟩ = some t := by
  have h3 := block_set (block_set (block_set h 0 u) 1 v) 2 t
  refine ⟨?_, ?_, ?_⟩ <;> (rw [cell_of_row _ b _ _ _ _ h3]; rfl)

set_option maxHeartbeats 8000000 in
theorem read_all (s : ByteArray) (w : World) : Calls Tryz.prog 5 #[.string s] w fun e w' => Below w.heap.size w w' ∧ ∃ v, e = .returned (.tuple #[v, .int .i64 (readErr s)]) ∧ MoIs (Fresh w.heap.size w') w' (readMo s) v := by
  by_cases h15 : 1500 < s.size
  · have h15' : (1500 : Int) < (s.size : Int) := by omega
    have HE : Hid (readErr s = 1) := if_pos h15
    have HMo : Hid (readMo s = noMo) := if_pos h15
    go_enter Tryz.func5, Tryz.ntmps5
    go_wp2_with fail
    exact bodyPost_ret (v := .tuple #[.agg #[.slice none 0 0, .slice none 0 0, .slice none 0 0], .int .i64 1]) (by simp [results, Tryz.results5, go_sem]) rfl
      ⟨(Below.refl _ _).alloc (Nat.le_refl _) _, _, by rw [HE.out], by rw [HMo.out]; exact noMo_is⟩
  · have h15' : ¬ (1500 : Int) < (s.size : Int) := by omega
    have hll := linesOf_le s
    have hE : readErr s = match readAll (linesOf s) noMo with
      | .error e => e
      | .ok m => moFault m := if_neg h15
    have hMo : readMo s = match readAll (linesOf s) noMo with
      | .error _ => noMo
      | .ok m => if moFault m = 0 then m else noMo := if_neg h15
    have HE := veil hE
    have HMo := veil hMo
    have HSp := veil (split_lines s (by omega) ((w.alloc (.cells #[.slice none 0 0, .slice none 0 0, .slice none 0 0] 26)).alloc (.cells #[.slice none 0 0, .slice none 0 0, .slice none 0 0] 26)))
    clear hE hMo
    generalize linesOf s = L at *
    have hw1 : ∃ w1, ((w.alloc (.cells #[.slice none 0 0, .slice none 0 0, .slice none 0 0] 26)).alloc (.cells #[.slice none 0 0, .slice none 0 0, .slice none 0 0] 26)).alloc (.cells (L.map Value.string).toArray 9) = w1 ∧ w1.heap.size = w.heap.size + 3 ∧
        w1.heap[w.heap.size]? = some (.cells #[.slice none 0 0, .slice none 0 0, .slice none 0 0] 26 (0, 0)) ∧ w1.heap[w.heap.size + 1]? = some (.cells #[.slice none 0 0, .slice none 0 0, .slice none 0 0] 26 (0, 0)) ∧ w1.heap[w.heap.size + 2]? = some (.cells (L.map Value.string).toArray 9 (0, 0)) ∧ Below w.heap.size w w1 := by
      have n0 : (w.alloc (.cells #[.slice none 0 0, .slice none 0 0, .slice none 0 0] 26)).heap.size = w.heap.size + 1 := by simp
      have n1 : ((w.alloc (.cells #[.slice none 0 0, .slice none 0 0, .slice none 0 0] 26)).alloc (.cells #[.slice none 0 0, .slice none 0 0, .slice none 0 0] 26)).heap.size = w.heap.size + 2 := by simp
      have a0 := heap_alloc_new w (.cells #[.slice none 0 0, .slice none 0 0, .slice none 0 0] 26)
      have a1 := heap_alloc_new (w.alloc (.cells #[.slice none 0 0, .slice none 0 0, .slice none 0 0] 26)) (.cells #[.slice none 0 0, .slice none 0 0, .slice none 0 0] 26)
      have a2 := heap_alloc_new ((w.alloc (.cells #[.slice none 0 0, .slice none 0 0, .slice none 0 0] 26)).alloc (.cells #[.slice none 0 0, .slice none 0 0, .slice none 0 0] 26)) (.cells (L.map Value.string).toArray 9)
      rw [n0] at a1
      rw [n1] at a2
      refine ⟨_, rfl, by simp, ?_, ?_, a2, (((Below.refl _ _).alloc (Nat.le_refl _) _).alloc (by omega) _).alloc (by omega) _⟩
      · rw [heap_alloc_old _ _ (by omega), heap_alloc_old _ _ (by omega)]; exact a0
      · rw [heap_alloc_old _ _ (by omega)]; exact a1
    obtain ⟨w1, hwe, hs1, p0, p1, p2, hbel⟩ := hw1
    have HP0 := veil p0
    have HP2 := veil p2
    have HBel := veil hbel
    have HM0 : Hid (ModAt (w.heap.size + 3) (w.heap.size + 1) (w.heap.size + 3) noMo (.slice none 0 0) (.slice none 0 0) (.slice none 0 0) w1) :=
      ⟨p1, by omega, by omega, by omega, ⟨[], ⟨rfl, Or.inl ⟨rfl, rfl⟩⟩, fun g h => (by cases h), fun j hj => absurd hj (by simp [noMo])⟩, ⟨[], ⟨rfl, Or.inl ⟨rfl, rfl⟩⟩, fun g h => (by cases h), fun j hj => absurd hj (by simp [noMo])⟩, ⟨[], ⟨rfl, Or.inl ⟨rfl, rfl⟩⟩, fun g h => (by cases h), fun j hj => absurd hj (by simp [noMo])⟩⟩
    clear p0 p1 p2 hbel
    go_enter Tryz.func5, Tryz.ntmps5
    go_wp2_with fail
    refine HSp.out.mono ?_
    rintro e wx ⟨rfl, hwx⟩
    rw [hwe] at hwx
    subst hwx
    clear hwe HSp
    go_wp2_with fail
    go_loopw [16] (fun i wr => ∃ k : Nat, k ≤ L.length ∧ i = .int .i64 k ∧ ∃ mo n1 vu vt vf, ModAt (w.heap.size + 3) (w.heap.size + 1) n1 mo vu vt vf wr ∧ (mo.uses.length ≤ k ∧ mo.types.length ≤ k ∧ mo.funcs.length ≤ k) ∧ readAll (L.drop k) mo = readAll L noMo ∧ BelowM (w.heap.size + 3) (w.heap.size + 1) wx wr) (fun i _ => L.length - (intOf i).toNat)
    case atStart => exact ⟨0, Nat.zero_le _, rfl, noMo, _, _, _, _, HM0.out, ⟨Nat.le_refl _, Nat.le_refl _, Nat.le_refl _⟩, rfl, ⟨rfl, rfl, rfl, Nat.le_refl _, fun _ _ _ => rfl⟩⟩
    case round =>
      obtain ⟨k, hk, rfl, mo, n1, vu, vt, vf, hmod, hlens, hra, hbm⟩ := hrel
      obtain ⟨hl1, hl2, hl3⟩ := hlens
      obtain ⟨yu, hyu⟩ := hmod.us
      obtain ⟨yt, hyt⟩ := hmod.ts
      obtain ⟨yf, hyf⟩ := hmod.fs
      obtain ⟨au, cu, hvu⟩ := own_slice hyu.own
      obtain ⟨at', ct, hvt⟩ := own_slice hyt.own
      obtain ⟨af, cf, hvf⟩ := own_slice hyf.own
      subst hvu hvt hvf
      clear hyu hyt hyf
      have HMod := veil hmod
      have HRa := veil hra
      have HBm := veil hbm
      have HZ : Hid (∀ W', BelowM (w.heap.size + 3) (w.heap.size + 1) wx W' → W'.heap[w.heap.size]? = some (.cells #[.slice none 0 0, .slice none 0 0, .slice none 0 0] 26 (0, 0))) := fun W' h => (h.block w.heap.size (by omega) (by omega)).trans HP0.out
      have HBw : Hid (∀ W', BelowM (w.heap.size + 3) (w.heap.size + 1) wx W' → Below w.heap.size w W') := fun W' h => HBel.out.trans ⟨h.os, h.tape, h.output, h.size, fun b hb => h.block b (by omega) (by omega)⟩
      by_cases hlt : k < L.length
      · have hlt' : (k : Int) < (L.length : Int) := by omega
        have c0 : wr.cell? ⟨w.heap.size + 1 + 1, k, none⟩ = some (.string (L[k]'hlt)) := by
          rw [cell_of_row wr (w.heap.size + 1 + 1) k _ _ _ ((hbm.block (w.heap.size + 2) (by omega) (by omega)).trans HP2.out)]
          simp [hlt]
        have hd : L.drop k = L[k]'hlt :: L.drop (k + 1) := List.drop_eq_getElem_cons hlt
        rw [hd, readAll] at HRa
        clear hd hmod hra hbm
        generalize L[k]'hlt = ln at *
        go_wp2_with fail
        refine (line_next ln (w.heap.size + 3) (w.heap.size + 1) n1 mo _ _ _ wr HMod.out (by omega) (by omega) (by omega)).mono ?_
        rintro e w' ⟨x, rfl, hbm', ⟨er, hr, rfl⟩ | ⟨d, hr, rfl, n1', vu', vt', vf', hmod'⟩⟩
        · rw [hr] at HRa
          have hne := lineRes_ne hr
          have hne' : (x != 0) = true := by simpa using hne
          have HE1 : Hid (readErr s = x) := by show _ = _; rw [HE.out, ← HRa.out]
          have HM1 : Hid (readMo s = noMo) := by show _ = _; rw [HMo.out, ← HRa.out]
          have hbx := HBm.out.trans hbm'
          have hz := HZ.out w' hbx
          have HBw1 := veil (HBw.out w' hbx)
          have HT := veil (three_set hz (.slice none 0 0) (.slice none 0 0) (.slice none 0 0))
          have z0 : w'.cell? ⟨w.heap.size, 0, none⟩ = some (.slice none 0 0) := by rw [cell_of_row w' _ 0 _ _ _ hz]; rfl
          have z1 : w'.cell? ⟨w.heap.size, 1, none⟩ = some (.slice none 0 0) := by rw [cell_of_row w' _ 1 _ _ _ hz]; rfl
          have z2 : w'.cell? ⟨w.heap.size, 2, none⟩ = some (.slice none 0 0) := by rw [cell_of_row w' _ 2 _ _ _ hz]; rfl
          have f0 := Lib.frozen_of_heap hz 0
          have f1 := Lib.frozen_of_heap hz 1
          have f2 := Lib.frozen_of_heap hz 2
          clear hr hne hbm' hbx hz HRa HE HMo HMod HBm c0
          go_wp2_with fail
          obtain ⟨q0, q1, q2⟩ := HT.out
          exact bodyPost_ret (v := .tuple #[.agg #[.slice none 0 0, .slice none 0 0, .slice none 0 0], .int .i64 x]) (by simp [results, Tryz.results5, go_sem, q0, q1, q2]) rfl
            ⟨((HBw1.out.setCell (p := ⟨w.heap.size, 0, none⟩) (Nat.le_refl _) _).setCell (p := ⟨w.heap.size, 1, none⟩) (Nat.le_refl _) _).setCell (p := ⟨w.heap.size, 2, none⟩) (Nat.le_refl _) _, _, by rw [HE1.out], by rw [HM1.out]; exact noMo_is⟩
        · rw [hr] at HRa
          have HMod' := veil hmod'
          have HBm' := veil (HBm.out.trans hbm')
          have HL' := veil (put_len (m := mo) (d := d) (k := k) ⟨hl1, hl2, hl3⟩)
          clear hr hbm' hmod' HMod HBm c0
          go_wp2_with fail
          exact ⟨⟨k + 1, by omega, by go_num, putLine mo d, n1', vu', vt', vf', HMod'.out, HL'.out, HRa.out, HBm'.out⟩, by simp [intOf]; omega⟩
      · have hke : k = L.length := by omega
        have hnl : ¬ (k : Int) < (L.length : Int) := by omega
        rw [hke, List.drop_length, readAll] at HRa
        have hb1 := hmod.mod
        have c0 : wr.cell? ⟨w.heap.size + 1, 0, none⟩ = some (.slice au mo.uses.length cu) := by rw [cell_of_row wr _ 0 _ _ _ hb1]; rfl
        have c1 : wr.cell? ⟨w.heap.size + 1, 1, none⟩ = some (.slice at' mo.types.length ct) := by rw [cell_of_row wr _ 1 _ _ _ hb1]; rfl
        have c2 : wr.cell? ⟨w.heap.size + 1, 2, none⟩ = some (.slice af mo.funcs.length cf) := by rw [cell_of_row wr _ 2 _ _ _ hb1]; rfl
        have HIs := veil (hmod.is (by unfold maxLen; omega) (by unfold maxLen; omega) (by unfold maxLen; omega))
        have hsz : w.heap.size + 3 ≤ wr.heap.size := by have := hbm.size; omega
        clear hmod hra hbm hb1
        go_wp2_with fail
        refine (treeCheck_any _ mo _ wr (fun b hb => hb.2) HIs.out).mono ?_
        rintro e w' ⟨rfl, hb⟩
        have hbx := HBm.out.trans (BelowM.of_below hb (by omega))
        have hz := HZ.out w' hbx
        have HBw1 := veil (HBw.out w' hbx)
        have HIs2 := veil (HIs.out.keep (S' := Fresh (w.heap.size + 3) w') ⟨fun b hb' => hb.block b hb'.2, fun b hb' => ⟨hb'.1, Nat.lt_of_lt_of_le hb'.2 hb.size⟩⟩)
        have z0 : w'.cell? ⟨w.heap.size, 0, none⟩ = some (.slice none 0 0) := by rw [cell_of_row w' _ 0 _ _ _ hz]; rfl
        have z1 : w'.cell? ⟨w.heap.size, 1, none⟩ = some (.slice none 0 0) := by rw [cell_of_row w' _ 1 _ _ _ hz]; rfl
        have z2 : w'.cell? ⟨w.heap.size, 2, none⟩ = some (.slice none 0 0) := by rw [cell_of_row w' _ 2 _ _ _ hz]; rfl
        have d0 : w'.cell? ⟨w.heap.size + 1, 0, none⟩ = some (.slice au mo.uses.length cu) := (hb.cell (p := ⟨w.heap.size + 1, 0, none⟩) (by show w.heap.size + 1 < _; omega)).trans c0
        have d1 : w'.cell? ⟨w.heap.size + 1, 1, none⟩ = some (.slice at' mo.types.length ct) := (hb.cell (p := ⟨w.heap.size + 1, 1, none⟩) (by show w.heap.size + 1 < _; omega)).trans c1
        have d2 : w'.cell? ⟨w.heap.size + 1, 2, none⟩ = some (.slice af mo.funcs.length cf) := (hb.cell (p := ⟨w.heap.size + 1, 2, none⟩) (by show w.heap.size + 1 < _; omega)).trans c2
        have f0 := Lib.frozen_of_heap hz 0
        have f1 := Lib.frozen_of_heap hz 1
        have f2 := Lib.frozen_of_heap hz 2
        have HEm : Hid (readErr s = moFault mo) := by show _ = _; rw [HE.out, ← HRa.out]
        by_cases hmf : moFault mo = 0
        · have HM1 : Hid (readMo s = mo) := by show _ = _; rw [HMo.out, ← HRa.out]; exact if_pos hmf
          have HE1 : Hid (readErr s = 0) := HEm.out.trans hmf
          have HT := veil (three_set hz (.slice au mo.uses.length cu) (.slice at' mo.types.length ct) (.slice af mo.funcs.length cf))
          rw [hmf]
          clear hbx hz hb c0 c1 c2 HE HMo HMod HBm HRa HIs hmf
          go_wp2_with fail
          obtain ⟨q0, q1, q2⟩ := HT.out
          refine bodyPost_ret (v := .tuple #[.agg #[.slice au mo.uses.length cu, .slice at' mo.types.length ct, .slice af mo.funcs.length cf], .int .i64 0]) (by simp [results, Tryz.results5, go_sem, q0, q1, q2]) rfl
            ⟨((HBw1.out.setCell (p := ⟨w.heap.size, 0, none⟩) (Nat.le_refl _) _).setCell (p := ⟨w.heap.size, 1, none⟩) (Nat.le_refl _) _).setCell (p := ⟨w.heap.size, 2, none⟩) (Nat.le_refl _) _, _, by rw [HE1.out], ?_⟩
          rw [HM1.out]
          refine HIs2.out.keep ⟨fun b hb' => ?_, fun b hb' => ⟨by have := hb'.1; omega, ?_⟩⟩
          · have h1 := hb'.1
            rw [Below.heap_setCell _ _ _ _ (by show b ≠ w.heap.size; omega), Below.heap_setCell _ _ _ _ (by show b ≠ w.heap.size; omega), Below.heap_setCell _ _ _ _ (by show b ≠ w.heap.size; omega)]
          · rw [heap_size_setCell, heap_size_setCell, heap_size_setCell]; exact hb'.2
        · have hne' : (moFault mo != 0) = true := by simpa using hmf
          have HM1 : Hid (readMo s = noMo) := by show _ = _; rw [HMo.out, ← HRa.out]; exact if_neg hmf
          have HT := veil (three_set hz (.slice none 0 0) (.slice none 0 0) (.slice none 0 0))
          clear hbx hz hb c0 c1 c2 HE HMo HMod HBm HRa HIs hmf
          generalize moFault mo = y at *
          go_wp2_with fail
          obtain ⟨q0, q1, q2⟩ := HT.out
          exact bodyPost_ret (v := .tuple #[.agg #[.slice none 0 0, .slice none 0 0, .slice none 0 0], .int .i64 y]) (by simp [results, Tryz.results5, go_sem, q0, q1, q2]) rfl
            ⟨((HBw1.out.setCell (p := ⟨w.heap.size, 0, none⟩) (Nat.le_refl _) _).setCell (p := ⟨w.heap.size, 1, none⟩) (Nat.le_refl _) _).setCell (p := ⟨w.heap.size, 2, none⟩) (Nat.le_refl _) _, _, by rw [HEm.out], by rw [HM1.out]; exact noMo_is⟩

end Go.Proofs.YtpamadnckijfkabGreatDoor
