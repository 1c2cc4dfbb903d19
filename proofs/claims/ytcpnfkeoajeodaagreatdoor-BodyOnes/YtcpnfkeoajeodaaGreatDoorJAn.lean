/- What alias.solve answers with the closure of alias.Solve, which knows the variable; what that closure answers. -/
import Derived.Test.YtcpnfkeoajeodaaGreatDoorJAq
import Derived.Laws.EntriesVeiled
namespace Go.Proofs.YtcpnfkeoajeodaaGreatDoor
open Go.RowKit
set_option maxRecDepth 100000

set_option maxHeartbeats 2000000 in
theorem solveList_B (w0 : World) (S : Nat → Prop) (hS : ∀ b, S b → b < w0.heap.size) (ρ : ByteArray → ByteArray → Sol) (hρ : ∀ o n, (ρ o n).1.size ≤ maxLen) (Env : World → Prop) (hE0 : ∀ W, Env W → Below w0.heap.size w0 W) (hEk : ∀ W W', Env W → Below W.heap.size W W' → Env W') (vB gB : Nat) (d : Nat) (HRec : Hid (∀ (t : Ty) (dd : Nat) (v : Value) (W : World), tyFault t dd = 0 → 11 ≤ dd + d → Env W → TyIs S W t v → Calls Tryz.prog 50 #[v, .func (.func 51) #[] #[.pointer (some ⟨vB, 0, none⟩), .pointer (some ⟨gB, 0, none⟩)]] W (Tells w0 (solveP ρ d t)))) (t : Ty) (dd : Nat) (o n : ByteArray) (v : Value) (W : World) (ht : tyFault t (dd + 1) = 0) (hd : 11 ≤ dd + 1 + d) (hW : Env W) (hv : TyIs S W (.mk 3 o n [t]) v) :
    Calls Tryz.prog 72 #[v, .func (.func 51) #[] #[.pointer (some ⟨vB, 0, none⟩), .pointer (some ⟨gB, 0, none⟩)]] W (Tells w0 (listR (solveP ρ d t))) := by
  obtain ⟨k, f, x, va, rfl, xs, e, _, _, hsl⟩ := hv
  injection e with e1 e2 e3 e4
  subst e1 e2 e3 e4
  obtain ⟨a, cap, rfl⟩ := hsl.is
  obtain ⟨_, b, off, rfl, hb, hat⟩ := hsl.at (k := 0) (by simp)
  simp only [List.getElem_cons_zero, Nat.zero_mul, Nat.add_zero] at hat
  obtain ⟨k1, f1, x1, va1, q0, q1, q2, q3, hcs1⟩ := tyAt_cells.1 hat
  obtain ⟨a1, m1, c1, rfl⟩ : ∃ a1 m1 c1, va1 = .slice a1 m1 c1 := by
    obtain ⟨_, _, _, _, hs⟩ := hcs1
    exact SlAt.slice hs
  have hSW : ∀ b, S b → b < W.heap.size := fun b hb => Nat.lt_of_lt_of_le (hS b hb) (hE0 W hW).size
  have hbW := hSW b hb
  obtain ⟨w2, rfl, p3, hbel⟩ : ∃ w2, w2 = W.alloc (.cells #[.int .i64 3, .string o, .string n, .slice (some ⟨b, off, none⟩) 1 cap] 49) ∧ w2.cell? ⟨W.heap.size, 3, none⟩ = some (.slice (some ⟨b, off, none⟩) 1 cap) ∧ Below W.heap.size W w2 :=
    ⟨_, rfl, by simp [go_sem], (Below.refl _ _).alloc (Nat.le_refl _) _⟩
  have d0 := (hbel.cell (p := ⟨b, off, none⟩) hbW).trans q0
  have d1 := (hbel.cell (p := ⟨b, off + 1, none⟩) hbW).trans q1
  have d2 := (hbel.cell (p := ⟨b, off + 2, none⟩) hbW).trans q2
  have d3 := (hbel.cell (p := ⟨b, off + 3, none⟩) hbW).trans q3
  have HR := veil (HRec.out t (dd + 1) (.agg #[.int .i64 k1, .string f1, .string x1, .slice a1 m1 c1]) _ ht hd (hEk _ _ hW hbel) ⟨_, _, _, _, rfl, hcs1.keep (Keeps.below hbel hSW)⟩)
  have HZ := veil (solveP_size hρ d t)
  have HL : Hid (listR (solveP ρ d t) = if (solveP ρ d t).2 = 0 then (if listErr (solveP ρ d t).1 = 0 then (wrapK (solveP ρ d t).1, 0) else (noneS, 5)) else (noneS, (solveP ρ d t).2)) := rfl
  clear hat hcs1 hsl hbel HRec hρ hW hSW q0 q1 q2 q3 ht hd
  generalize listR (solveP ρ d t) = r at *
  generalize solveP ρ d t = sp at *
  obtain ⟨ss, sc⟩ := sp
  obtain ⟨rs, rc⟩ := r
  simp only at HL HZ
  go_enter Tryz.func72, Tryz.ntmps72
  go_wp2_with fail
  refine HR.out.mono ?_
  rintro e w3 ⟨rfl, hb3⟩
  have HB3 := veil hb3
  clear hb3 HR d0 d1 d2 d3 p3
  by_cases hc : sc = 0
  · rw [if_pos hc] at HL
    subst hc
    by_cases hl : listErr ss = 0
    · rw [if_pos hl] at HL
      have HR1 : Hid (rs = wrapK ss) := (Prod.mk.inj HL.out).1
      have HR2 : Hid (rc = 0) := (Prod.mk.inj HL.out).2
      have HLo := veil (fun W => listOf_good hl W)
      clear hl HL
      go_wp2_with fail
      refine (HLo.out _).mono ?_
      rintro e w4 ⟨rfl, rfl⟩
      go_wp2_with fail
      go_ret2
      exact ⟨by rw [HR1.out, HR2.out]; rfl, HB3.out⟩
    · rw [if_neg hl] at HL
      have HR1 : Hid (rs = noneS) := (Prod.mk.inj HL.out).1
      have HR2 : Hid (rc = 5) := (Prod.mk.inj HL.out).2
      have HLo := veil (fun W => listOf_bad HZ.out hl W)
      have hl' : (listErr ss != 0) = true := by simpa using hl
      clear hl HL
      generalize listErr ss = le at *
      go_wp2_with fail
      refine (HLo.out _).mono ?_
      rintro e w4 ⟨rfl, rfl⟩
      go_wp2_with fail
      go_ret2
      exact ⟨by rw [HR1.out, HR2.out]; rfl, HB3.out⟩
  · rw [if_neg hc] at HL
    have HR1 : Hid (rs = noneS) := (Prod.mk.inj HL.out).1
    have HR2 : Hid (rc = sc) := (Prod.mk.inj HL.out).2
    have hc' : (sc != 0) = true := by simpa using hc
    clear hc HL
    go_wp2_with fail
    go_ret2
    exact ⟨by rw [HR1.out, HR2.out]; rfl, HB3.out⟩

set_option maxHeartbeats 2000000 in
theorem solve_B (w0 : World) (S : Nat → Prop) (hS : ∀ b, S b → b < w0.heap.size) (ρ : ByteArray → ByteArray → Sol) (hρ : ∀ o n, (ρ o n).1.size ≤ maxLen) (Env : World → Prop) (hE0 : ∀ W, Env W → Below w0.heap.size w0 W) (hEk : ∀ W W', Env W → Below W.heap.size W W' → Env W') (vB gB : Nat) (HF : ∀ o n W, Env W → Calls Tryz.prog 51 #[.string o, .string n, .pointer (some ⟨vB, 0, none⟩), .pointer (some ⟨gB, 0, none⟩)] W (Tells w0 (ρ o n))) : ∀ (d : Nat) (t : Ty) (dd : Nat) (v : Value) (W : World), tyFault t dd = 0 → 11 ≤ dd + d → Env W → TyIs S W t v → Calls Tryz.prog 50 #[v, .func (.func 51) #[] #[.pointer (some ⟨vB, 0, none⟩), .pointer (some ⟨gB, 0, none⟩)]] W (Tells w0 (solveP ρ d t)) := by
  intro d
  induction d with
  | zero =>
    intro t dd v W ht hd
    obtain ⟨k, o, n, xs⟩ := t
    have := (ty_parts ht).1
    omega
  | succ d ih =>
    intro t dd v W ht hd hW hv
    obtain ⟨k, o, n, xs⟩ := t
    obtain ⟨_, ⟨hk1, hk4⟩, h3, _⟩ := ty_parts ht
    have HRec : Hid (∀ (t : Ty) (dd : Nat) (v : Value) (W : World), tyFault t dd = 0 → 11 ≤ dd + d → Env W → TyIs S W t v → Calls Tryz.prog 50 #[v, .func (.func 51) #[] #[.pointer (some ⟨vB, 0, none⟩), .pointer (some ⟨gB, 0, none⟩)]] W (Tells w0 (solveP ρ d t))) := ih
    have HP : Hid (solveP ρ (d + 1) (.mk k o n xs) = if k = 1 then (intK, 0) else if k = 2 then (textK, 0) else if k = 3 then (match xs with
      | [] => (noneS, 5)
      | t :: _ => listR (solveP ρ d t)) else ρ o n) := rfl
    have hv0 := hv
    obtain ⟨k', f', x', va, rfl, xs', e, _, _, hsl⟩ := hv
    injection e with e1 e2 e3 e4
    subst e1 e2 e3 e4
    obtain ⟨a, m, cap, rfl⟩ := hsl.slice
    have hbel : Below W.heap.size W (W.alloc (.cells #[.int .i64 k, .string o, .string n, .slice a m cap] 49)) := (Below.refl _ _).alloc (Nat.le_refl _) _
    have HBel := veil hbel
    have hSW : ∀ b, S b → b < W.heap.size := fun b hb => Nat.lt_of_lt_of_le (hS b hb) (hE0 W hW).size
    have HEnd := veil ((hE0 W hW).trans (hbel.mono (hE0 W hW).size))
    have hk : k = 1 ∨ k = 2 ∨ k = 3 ∨ k = 4 := by omega
    rcases hk with rfl | rfl | rfl | rfl
    · have HR : Hid (solveP ρ (d + 1) (.mk 1 o n xs) = (intK, 0)) := HP.out
      clear HP HRec ih h3 hv0 hsl hW hSW hρ HF
      generalize solveP ρ (d + 1) (.mk 1 o n xs) = r at *
      go_enter Tryz.func50, Tryz.ntmps50
      go_wp2_with fail
      go_ret2
      exact ⟨by rw [HR.out]; rfl, HEnd.out⟩
    · have HR : Hid (solveP ρ (d + 1) (.mk 2 o n xs) = (textK, 0)) := HP.out
      clear HP HRec ih h3 hv0 hsl hW hSW hρ HF
      generalize solveP ρ (d + 1) (.mk 2 o n xs) = r at *
      go_enter Tryz.func50, Tryz.ntmps50
      go_wp2_with fail
      go_ret2
      exact ⟨by rw [HR.out]; rfl, HEnd.out⟩
    · obtain ⟨t, rfl, ht1⟩ := h3 rfl
      have HR : Hid (solveP ρ (d + 1) (.mk 3 o n [t]) = listR (solveP ρ d t)) := HP.out
      have HS := veil (solveList_B w0 S hS ρ hρ Env hE0 hEk vB gB d HRec t dd o n _ _ ht1 (by omega) (hEk _ _ hW hbel) (hv0.keep (Keeps.below hbel hSW)))
      clear HP HRec ih h3 hv0 hsl hW hSW hρ HF
      generalize solveP ρ (d + 1) (.mk 3 o n [t]) = r at *
      generalize listR (solveP ρ d t) = r' at *
      go_enter Tryz.func50, Tryz.ntmps50
      go_wp2_with fail
      refine HS.out.mono ?_
      rintro e w3 ⟨rfl, hb3⟩
      have HB3 := veil hb3
      clear hb3
      go_wp2_with fail
      go_ret2
      exact ⟨by rw [HR.out]; rfl, HB3.out⟩
    · have HR : Hid (solveP ρ (d + 1) (.mk 4 o n xs) = ρ o n) := HP.out
      have HS := veil (HF o n _ (hEk _ _ hW hbel))
      clear HP HRec ih h3 hv0 hsl hW hSW hρ HF
      generalize solveP ρ (d + 1) (.mk 4 o n xs) = r at *
      generalize ρ o n = r' at *
      go_enter Tryz.func50, Tryz.ntmps50
      go_wp2_with fail
      refine HS.out.mono ?_
      rintro e w3 ⟨rfl, hb3⟩
      have HB3 := veil hb3
      clear hb3
      go_wp2_with fail
      go_ret2
      exact ⟨by rw [HR.out]; rfl, HB3.out⟩


def topR (v : ByteArray) (ρ : ByteArray → ByteArray → Sol) (o n : ByteArray) : Sol := if (o.toList.isEmpty && sEq n v) = true then (starK, 0) else ρ o n

theorem solve1_any (w0 : World) (v o n : ByteArray) (vB gB mB lB tB fB : Nat) (r : Sol) (W : World) (hb : Below w0.heap.size w0 W) (hv : W.cell? ⟨vB, 0, none⟩ = some (.string v)) (hg : W.cell? ⟨gB, 0, none⟩ = some (fnd mB lB tB fB))
    (HF : Calls Tryz.prog 69 #[.string o, .string n, .pointer (some ⟨mB, 0, none⟩), .pointer (some ⟨lB, 0, none⟩), .pointer (some ⟨tB, 0, none⟩), .pointer (some ⟨fB, 0, none⟩)] W (Tells w0 r)) :
    Calls Tryz.prog 51 #[.string o, .string n, .pointer (some ⟨vB, 0, none⟩), .pointer (some ⟨gB, 0, none⟩)] W (Tells w0 (if (o.toList.isEmpty && sEq n v) = true then (starK, 0) else r)) := by
  have hg' : W.cell? ⟨gB, 0, none⟩ = some (.func (.func 69) #[] #[.pointer (some ⟨mB, 0, none⟩), .pointer (some ⟨lB, 0, none⟩), .pointer (some ⟨tB, 0, none⟩), .pointer (some ⟨fB, 0, none⟩)]) := hg
  have H := veil HF
  have HB := veil hb
  clear HF hb hg
  cases ho : o.toList.isEmpty with
  | false =>
    have HR : Hid ((if (false && sEq n v) = true then (starK, (0 : Int)) else r) = r) := if_neg (by simp)
    generalize (if (false && sEq n v) = true then (starK, (0 : Int)) else r) = r' at *
    go_enter Tryz.func51, Tryz.ntmps51
    go_wp2_with fail
    refine H.out.mono ?_
    rintro e w3 ⟨rfl, hb3⟩
    have HB3 := veil hb3
    clear hb3
    go_wp2_with fail
    go_ret2
    exact ⟨by rw [HR.out]; rfl, HB3.out⟩
  | true =>
    cases hs : (n.toList == v.toList) with
    | true =>
      have HR : Hid ((if (true && sEq n v) = true then (starK, (0 : Int)) else r) = (starK, 0)) := if_pos (by show (true && (n.toList == v.toList)) = true; rw [hs]; rfl)
      generalize (if (true && sEq n v) = true then (starK, (0 : Int)) else r) = r' at *
      go_enter Tryz.func51, Tryz.ntmps51
      go_wp2_with fail
      go_ret2
      exact ⟨by rw [HR.out]; rfl, HB.out⟩
    | false =>
      have HR : Hid ((if (true && sEq n v) = true then (starK, (0 : Int)) else r) = r) := if_neg (by show ¬ (true && (n.toList == v.toList)) = true; rw [hs]; simp)
      generalize (if (true && sEq n v) = true then (starK, (0 : Int)) else r) = r' at *
      go_enter Tryz.func51, Tryz.ntmps51
      go_wp2_with fail
      refine H.out.mono ?_
      rintro e w3 ⟨rfl, hb3⟩
      have HB3 := veil hb3
      clear hb3
      go_wp2_with fail
      go_ret2
      exact ⟨by rw [HR.out]; rfl, HB3.out⟩

end Go.Proofs.YtcpnfkeoajeodaaGreatDoor

/- What alias.finder makes: a closure that has met no type yet. -/
namespace Go.Proofs.YtcpnfkeoajeodaaGreatDoor
open Go.RowKit
set_option maxRecDepth 100000

theorem bool_info : (Tryz.prog.info? 4).map (fun i => (i.zero, i.size, i.bytes)) = some (some (.bool false), 1, 1) := by kernel_rfl

theorem made_bools (n : Nat) (hb : n ≤ 281474976710656) :
    ∃ arr : Array Value, (∀ i, i < n → arr[i]? = some (.bool false)) ∧ ∀ w, (Instr.makeSlice 111 (.int .i64 (n : Int)) (.int .i64 (n : Int))).run Tryz.prog w = .ok (.slice (some ⟨w.heap.size, 0, none⟩) n n) (w.alloc (.cells arr 4)) := by
  obtain ⟨i, h1, h2, h3, h4⟩ := info_parts bool_info
  refine ⟨madeCells (Value.bool false).cells n, fun j hj => ?_, fun w => ?_⟩
  · simp [madeCells, Value.cells, hj]
    rw [Nat.mod_one]; rfl
  have hb' : (i.bytes : Int) * (n : Int) ≤ 281474976710656 := by
    rw [h4]
    omega
  have := run_make (P := Tryz.prog) w 111 4 i (.bool false) Tryz.underlying111 h1 h2 .i64 .i64 n n (by omega) (Int.le_refl _) hb' (by omega)
  rw [h3] at this
  simpa using this

set_option maxHeartbeats 2000000 in
theorem finder_any (m : Mo) (u1 t1 f1 la : Option Addr) (u2 u3 t3 f2 f3 ln lc : Nat) (w : World) (hn : m.types.length ≤ reachBytes) :
    Calls Tryz.prog 49 #[.agg #[.slice u1 u2 u3, .slice t1 m.types.length t3, .slice f1 f2 f3], .slice la ln lc] w fun e w' => ∃ mB lB tB fB aB, e = .returned (fnd mB lB tB fB) ∧ SEnv w mB lB tB fB aB (.slice u1 u2 u3) (.slice t1 m.types.length t3) (.slice f1 f2 f3) (.slice la ln lc) m.types.length [] w' := by
  have hr := reachBytes_lt
  obtain ⟨arr, harr, hmk⟩ := made_bools m.types.length (by omega)
  have HEnv : Hid (SEnv w w.heap.size (w.heap.size + 1) (w.heap.size + 1 + 1 + 1) (w.heap.size + 1 + 1 + 1 + 1) (w.heap.size + 1 + 1) (.slice u1 u2 u3) (.slice t1 m.types.length t3) (.slice f1 f2 f3) (.slice la ln lc) m.types.length []
      (((((w.alloc (.cells #[.slice u1 u2 u3, .slice t1 m.types.length t3, .slice f1 f2 f3] 26)).alloc (.cells #[.slice la ln lc] 27)).alloc (.cells arr 4)).alloc (.cells #[.slice (some ⟨w.heap.size + 1 + 1, 0, none⟩) m.types.length m.types.length] 111)).alloc (.cells #[fnd w.heap.size (w.heap.size + 1) (w.heap.size + 1 + 1 + 1) (w.heap.size + 1 + 1 + 1 + 1)] 95))) := by
    refine ⟨((((((Below.refl _ _).alloc (Nat.le_refl _) _).alloc (by simp) _).alloc (by simp; omega) _).alloc (by simp; omega) _).alloc (by simp; omega) _), by simp [go_sem], by simp [go_sem], by simp [go_sem], by simp [go_sem], by simp [go_sem], by simp [go_sem], fun i hi => ⟨?_, by simp [go_sem]⟩, by omega, by omega, by omega, by omega, by omega⟩
    have := harr i hi
    simp [go_sem, this]
  clear harr
  go_enter Tryz.func49, Tryz.ntmps49
  go_wp2_with fail
  go_ret
  exact ⟨_, _, _, _, _, rfl, HEnv.out⟩

end Go.Proofs.YtcpnfkeoajeodaaGreatDoor

/- What alias.Solve answers. -/
namespace Go.Proofs.YtcpnfkeoajeodaaGreatDoor
open Go.RowKit
set_option maxRecDepth 100000

theorem unmet_nil : ∀ n, unmet [] n = n
  | 0 => rfl
  | n + 1 => by rw [unmet, unmet_nil n]; simp

set_option maxHeartbeats 2000000 in
theorem solveAll_any (S : Nat → Prop) (m : Mo) (l : List Im) (v : ByteArray) (t : Ty) (vm vl vt : Value) (w : World) (hS : ∀ b, S b → b < w.heap.size) (hm : MoIs S w m vm) (hl : SlAt S (ImAt S w) 4 l vl) (hz : ∀ i ∈ l, fcSmall i.face) (hty : ∀ f ∈ m.types, tyFault f.is 1 = 0) (ht : tyFault t 1 = 0) (hvt : TyIs S w t vt) (hn : m.types.length ≤ reachBytes) :
    Calls Tryz.prog 26 #[vm, vl, .string v, vt] w (Tells w (solveP (topR v (findR m l m.types.length [])) 10 t)) := by
  obtain ⟨vu, vty, vf, rfl, hu, hts, hf⟩ := id hm
  obtain ⟨u1, u2, u3, rfl⟩ := hu.slice
  obtain ⟨t1, t3, rfl⟩ := hts.is
  obtain ⟨f1, f2, f3, rfl⟩ := hf.slice
  obtain ⟨la, ln, lc, rfl⟩ := hl.slice
  obtain ⟨k, fo, na, va, rfl, hcs⟩ := id hvt
  obtain ⟨a, c, cap, rfl⟩ : ∃ a c cap, va = .slice a c cap := by
    obtain ⟨_, _, _, _, hs⟩ := hcs
    exact SlAt.slice hs
  obtain ⟨w2, hwe, hs2, p0, q0, q1, q2, q3, hbel⟩ : ∃ w2, ((w.alloc (.cells #[.slice u1 u2 u3, .slice t1 m.types.length t3, .slice f1 f2 f3] 26)).alloc (.cells #[.string v] 9)).alloc (.cells #[.int .i64 k, .string fo, .string na, .slice a c cap] 49) = w2 ∧ w2.heap.size = w.heap.size + 3 ∧
      w2.cell? ⟨w.heap.size + 1, 0, none⟩ = some (.string v) ∧ w2.cell? ⟨w.heap.size + 2, 0, none⟩ = some (.int .i64 k) ∧ w2.cell? ⟨w.heap.size + 2, 1, none⟩ = some (.string fo) ∧ w2.cell? ⟨w.heap.size + 2, 2, none⟩ = some (.string na) ∧ w2.cell? ⟨w.heap.size + 2, 3, none⟩ = some (.slice a c cap) ∧ Below w.heap.size w w2 :=
    ⟨_, rfl, by simp, by simp [go_sem], by simp [go_sem], by simp [go_sem], by simp [go_sem], by simp [go_sem], (((Below.refl _ _).alloc (Nat.le_refl _) _).alloc (by simp) _).alloc (by simp; omega) _⟩
  have hS2 : ∀ b, S b → b < w2.heap.size := fun b hb => Nat.lt_of_lt_of_le (hS b hb) hbel.size
  have hk2 := Keeps.below hbel hS
  have hm2 := hm.keep hk2
  have hl2 := imSl_keep hk2 hl
  have HAll : Hid (∀ (mB lB tB fB aB gB : Nat) (W : World), SEnv w2 mB lB tB fB aB (.slice u1 u2 u3) (.slice t1 m.types.length t3) (.slice f1 f2 f3) (.slice la ln lc) m.types.length [] W → W.cell? ⟨w.heap.size + 1, 0, none⟩ = some (.string v) → W.cell? ⟨gB, 0, none⟩ = some (fnd mB lB tB fB) → Calls Tryz.prog 50 #[.agg #[.int .i64 k, .string fo, .string na, .slice a c cap], .func (.func 51) #[] #[.pointer (some ⟨w.heap.size + 1, 0, none⟩), .pointer (some ⟨gB, 0, none⟩)]] W (Tells w2 (solveP (topR v (findR m l m.types.length [])) 10 t))) := fun mB lB tB fB aB gB W henv hv hg => by
    refine solve_B w2 S hS2 (topR v (findR m l m.types.length [])) (fun o n => ?_) (fun W => SEnv w2 mB lB tB fB aB (.slice u1 u2 u3) (.slice t1 m.types.length t3) (.slice f1 f2 f3) (.slice la ln lc) m.types.length [] W ∧ W.cell? ⟨w.heap.size + 1, 0, none⟩ = some (.string v) ∧ W.cell? ⟨gB, 0, none⟩ = some (fnd mB lB tB fB)) (fun _ h => h.1.below) (fun W W' h hb => ⟨h.1.keep hb, (hb.cell (World.block_lt_of_cell? _ _ h.2.1)).trans h.2.1, (hb.cell (World.block_lt_of_cell? _ _ h.2.2)).trans h.2.2⟩) (w.heap.size + 1) gB
      (fun o n W hW => solve1_any w2 v o n (w.heap.size + 1) gB mB lB tB fB _ W hW.1.below hW.2.1 hW.2.2 (find_any w2 S hS2 m l u1 t1 f1 la u2 u3 t3 f2 f3 ln lc hm2 hl2 hz hty mB lB tB fB aB m.types.length [] (by rw [unmet_nil]; exact Nat.le_refl _) o n W hW.1)) 10 t 1 _ W ht (by omega) ⟨henv, hv, hg⟩ (hvt.keep ⟨fun b hb => (henv.below.block b (hS2 b hb)).trans (hbel.block b (hS b hb)), fun _ h => h⟩)
    unfold topR
    split
    · show (1 : Nat) ≤ _
      unfold maxLen; omega
    · exact findR_size hz _ _ o n
  have HF := veil (finder_any m u1 t1 f1 la u2 u3 t3 f2 f3 ln lc w2 hn)
  have HWe := veil hwe
  have HBel := veil hbel
  clear hwe hbel hm hl hu hts hf hvt hcs hm2 hl2 hk2 hz hty ht hn hS2
  generalize solveP (topR v (findR m l m.types.length [])) 10 t = r at *
  go_enter Tryz.func26, Tryz.ntmps26
  go_wp2_with fail
  rw [HWe.out]
  refine HF.out.mono ?_
  rintro e w3 ⟨mB, lB, tB, fB, aB, rfl, henv⟩
  have hb3 := henv.below
  have hsz3 := hb3.size
  have hfn : fnd mB lB tB fB = .func (.func 69) #[] #[.pointer (some ⟨mB, 0, none⟩), .pointer (some ⟨lB, 0, none⟩), .pointer (some ⟨tB, 0, none⟩), .pointer (some ⟨fB, 0, none⟩)] := rfl
  have hb4 : Below w3.heap.size w3 (w3.alloc (.cells #[fnd mB lB tB fB] 95)) := (Below.refl _ _).alloc (Nat.le_refl _) _
  have hb5 := hb3.trans (hb4.mono hb3.size)
  have r0 := (hb5.cell (p := ⟨w.heap.size + 2, 0, none⟩) (by show w.heap.size + 2 < _; omega)).trans q0
  have r1 := (hb5.cell (p := ⟨w.heap.size + 2, 1, none⟩) (by show w.heap.size + 2 < _; omega)).trans q1
  have r2 := (hb5.cell (p := ⟨w.heap.size + 2, 2, none⟩) (by show w.heap.size + 2 < _; omega)).trans q2
  have r3 := (hb5.cell (p := ⟨w.heap.size + 2, 3, none⟩) (by show w.heap.size + 2 < _; omega)).trans q3
  have HC := veil (HAll.out mB lB tB fB aB w3.heap.size _ (henv.keep hb4) ((hb5.cell (p := ⟨w.heap.size + 1, 0, none⟩) (by show w.heap.size + 1 < _; omega)).trans p0) (by simp [go_sem]))
  clear henv hb3 hb4 hb5 q0 q1 q2 q3 p0 HAll HF
  rw [hfn] at HC r0 r1 r2 r3 ⊢
  clear hfn
  go_wp2_with fail
  refine HC.out.mono ?_
  rintro e w6 ⟨rfl, hb6⟩
  have HB6 := veil (HBel.out.trans (hb6.mono HBel.out.size))
  clear hb6
  go_wp2_with fail
  go_ret2
  exact ⟨rfl, HB6.out⟩

end Go.Proofs.YtcpnfkeoajeodaaGreatDoor
