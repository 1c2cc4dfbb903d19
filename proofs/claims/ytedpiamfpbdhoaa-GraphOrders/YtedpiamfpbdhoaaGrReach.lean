/- What graph.reached and graph.rounds answer: which nodes one leads to; which lead to themselves. -/
import Derived.Test.YtedpiamfpbdhoaaGrWalk
namespace Go.Proofs.Ytedpiamfpbdhoaa
open Go.RowKit

theorem boolN_info : (Try.prog.info? 4).map (fun i => (i.zero, i.size, i.bytes)) = some (some (.bool false), 1, 1) := by kernel_rfl

theorem made_boolsN (n : Nat) (hb : n ≤ 281474976710656) :
    ∃ arr : Array Value, (∀ i, i < n → arr[i]? = some (.bool false)) ∧ ∀ w, (Instr.makeSlice 36 (.int .i64 (n : Int)) (.int .i64 (n : Int))).run Try.prog w = .ok (.slice (some ⟨w.heap.size, 0, none⟩) n n) (w.alloc (.cells arr 4)) := by
  obtain ⟨i, h1, h2, h3, h4⟩ := info_parts boolN_info
  refine ⟨madeCells (Value.bool false).cells n, fun j hj => ?_, fun w => ?_⟩
  · simp [madeCells, Value.cells, hj]
    rw [Nat.mod_one]; rfl
  have hb' : (i.bytes : Int) * (n : Int) ≤ 281474976710656 := by
    rw [h4]
    omega
  have := run_make (P := Try.prog) w 36 4 i (.bool false) Try.underlying36 h1 h2 .i64 .i64 n n (by omega) (Int.le_refl _) hb' (by omega)
  rw [h3] at this
  simpa using this

/-- a list of one's own that tells of each number whether it is so. -/
structure BRow (w0 : World) (B n : Nat) (p : Nat → Bool) (W : World) : Prop where
  below : Below w0.heap.size w0 W
  low : w0.heap.size ≤ B
  top : B < W.heap.size
  arr : ∀ i, i < n → W.cell? ⟨B, i, none⟩ = some (.bool (p i)) ∧ W.frozen? ⟨B, i, none⟩ = false

theorem BRow.keep {w0 : World} {B n : Nat} {p : Nat → Bool} {W W' : World} (h : BRow w0 B n p W) (hb : Below W.heap.size W W') : BRow w0 B n p W' :=
  ⟨h.below.trans (hb.mono h.below.size), h.low, Nat.lt_of_lt_of_le h.top hb.size, fun i hi => by
    obtain ⟨h1, h2⟩ := h.arr i hi
    exact ⟨(hb.cell (World.block_lt_of_cell? _ _ h1)).trans h1, (hb.frozen (World.block_lt_of_cell? _ _ h1)).trans h2⟩⟩
theorem BRow.put {w0 : World} {B n : Nat} {p q : Nat → Bool} {W : World} (h : BRow w0 B n p W) {k : Nat} (hk : k < n) (hq : ∀ i, i < n → i ≠ k → q i = p i) : BRow w0 B n q (W.setCell ⟨B, k, none⟩ (.bool (q k))) :=
  ⟨h.below.setCell h.low _, h.low, by simpa [World.setCell] using h.top, fun i hi => by
    obtain ⟨h1, h2⟩ := h.arr i hi
    obtain ⟨h3, _⟩ := h.arr k hk
    refine ⟨?_, by rw [World.frozen?_setCell]; exact h2⟩
    by_cases hik : i = k
    · subst hik
      rw [World.cell?_setCell_same (h := h3)]
    · rw [World.cell?_setCell_other (h := by intro e; injection e with _ e; exact hik e.symm), h1, hq i hi hik]⟩
theorem BRow.same {w0 : World} {B n : Nat} {p q : Nat → Bool} {W : World} (h : BRow w0 B n p W) (hq : ∀ i, i < n → q i = p i) : BRow w0 B n q W :=
  ⟨h.below, h.low, h.top, fun i hi => by rw [hq i hi]; exact h.arr i hi⟩

set_option maxHeartbeats 2000000 in
theorem reached_any (S : Nat → Prop) (l : List Nd) (la : Option Addr) (lc k gB : Nat) (w : World) (hS : ∀ b, S b → b < w.heap.size) (hl : SlAt S (NdAt S w) 2 l (.slice la l.length lc)) (hg : w.cell? ⟨gB, 0, none⟩ = some (.slice la l.length lc)) (hk : k < l.length) (hn : l.length ≤ 1000) :
    Calls Try.prog 26 #[.slice la l.length lc, .int .i64 k, fndN gB] w fun e w' => ∃ aB, e = .returned (.slice (some ⟨aB, 0, none⟩) l.length l.length) ∧ BRow w aB l.length (inL (reachL l.length (grE l) k)) w' := by
  obtain ⟨arr, harr, hmk⟩ := made_boolsN l.length (by omega)
  have HEnv : Hid (GEnv w w.heap.size (w.heap.size + 1) (w.heap.size + 1 + 1 + 1) (w.heap.size + 1 + 1 + 1 + 1) (w.heap.size + 1 + 1) gB (.slice la l.length lc) l.length []
      (((((w.alloc (.cells #[.slice la l.length lc] 22)).alloc (.cells #[fndN gB] 34)).alloc (.cells arr 4)).alloc (.cells #[.slice (some ⟨w.heap.size + 1 + 1, 0, none⟩) l.length l.length] 36)).alloc (.cells #[wlk w.heap.size (w.heap.size + 1) (w.heap.size + 1 + 1 + 1) (w.heap.size + 1 + 1 + 1 + 1)] 49))) := by
    refine ⟨((((((Below.refl _ _).alloc (Nat.le_refl _) _).alloc (by simp) _).alloc (by simp; omega) _).alloc (by simp; omega) _).alloc (by simp; omega) _), by simp [go_sem], by simp [go_sem], by simp [go_sem], by simp [go_sem], fun i hi => ⟨?_, by simp [go_sem]⟩, by omega, by omega, by omega, by omega, by omega⟩
    have := harr i hi
    simp [go_sem, this, inL]
  have HW := veil (walk_any w S hS l la lc hl w.heap.size (w.heap.size + 1) (w.heap.size + 1 + 1 + 1) (w.heap.size + 1 + 1 + 1 + 1) (w.heap.size + 1 + 1) gB hg (l.length + 1) [] (Nat.lt_succ_of_le (outs_n _)) k hk)
  clear harr hl hg
  go_enter Try.func26, Try.ntmps26
  go_wp2_with fail
  refine (HW.out _ HEnv.out).mono ?_
  rintro e w1 ⟨rfl, henv⟩
  have c3 := henv.mc
  have HR : Hid (BRow w (w.heap.size + 1 + 1) l.length (inL (reachL l.length (grE l) k)) w1) := ⟨henv.below, henv.low, by
    obtain ⟨h1, _⟩ := henv.arr k hk
    exact World.block_lt_of_cell? _ _ h1, henv.arr⟩
  clear henv HEnv HW
  go_wp2_with fail
  go_ret
  exact ⟨_, rfl, HR.out⟩

set_option maxHeartbeats 2000000 in
theorem rounds_any (S : Nat → Prop) (l : List Nd) (la : Option Addr) (lc gB : Nat) (w : World) (hS : ∀ b, S b → b < w.heap.size) (hl : SlAt S (NdAt S w) 2 l (.slice la l.length lc)) (hg : w.cell? ⟨gB, 0, none⟩ = some (.slice la l.length lc)) (hn : l.length ≤ 1000) :
    Calls Try.prog 13 #[.slice la l.length lc, fndN gB] w fun e w' => ∃ rB, e = .returned (.slice (some ⟨rB, 0, none⟩) l.length l.length) ∧ BRow w rB l.length (rdB l.length (grE l)) w' := by
  obtain ⟨arr, harr, hmk⟩ := made_boolsN l.length (by omega)
  have HR0 : Hid (BRow w w.heap.size l.length (fun i => decide (i < 0) && rdB l.length (grE l) i) (w.alloc (.cells arr 4))) :=
    ⟨(Below.refl _ _).alloc (Nat.le_refl _) _, Nat.le_refl _, by simp, fun i hi => ⟨by have := harr i hi; simp [go_sem, this], by simp [go_sem]⟩⟩
  have HL := veil hl
  have HG := veil hg
  clear harr hl hg
  go_enter Try.func13, Try.ntmps13
  go_wp2_with fail
  go_loopw [12] (fun i wr => ∃ j : Nat, j ≤ l.length ∧ i = .int .i64 j ∧ BRow w w.heap.size l.length (fun i => decide (i < j) && rdB l.length (grE l) i) wr) (fun i _ => l.length - (intOf i).toNat)
  case atStart => exact ⟨0, Nat.zero_le _, rfl, HR0.out⟩
  case round =>
    clear HR0 hmk
    obtain ⟨j, hj, rfl, hrow⟩ := hrel
    have HRow := veil hrow
    by_cases hjt : j < l.length
    · have hjt' : (j : Int) < (l.length : Int) := by omega
      have hj0 : (0 : Int) ≤ (j : Int) := by omega
      have HC : Hid (∀ W, Below wr.heap.size wr W → Calls Try.prog 26 #[.slice la l.length lc, .int .i64 j, fndN gB] W fun e w' => ∃ aB, e = .returned (.slice (some ⟨aB, 0, none⟩) l.length l.length) ∧ BRow W aB l.length (inL (reachL l.length (grE l) j)) w') := fun W hW => by
        have hbW := hrow.below.trans (hW.mono hrow.below.size)
        exact reached_any S l la lc j gB W (fun b hb => Nat.lt_of_lt_of_le (hS b hb) hbW.size) (ndSl_keep (Keeps.below hbW hS) HL.out) ((hbW.cell (World.block_lt_of_cell? _ _ HG.out)).trans HG.out) hjt hn
      have HFin : Hid (∀ W, Below wr.heap.size wr W → W.cell? ⟨w.heap.size, j, none⟩ = some (.bool false) ∧ W.frozen? ⟨w.heap.size, j, none⟩ = false ∧ BRow w w.heap.size l.length (fun i => decide (i < j + 1) && rdB l.length (grE l) i) (W.setCell ⟨w.heap.size, j, none⟩ (.bool (rdB l.length (grE l) j)))) := fun W hW => by
        have hk := HRow.out.keep hW
        obtain ⟨h1, h2⟩ := hk.arr j hjt
        refine ⟨by rw [h1]; simp, h2, ?_⟩
        have := hk.put (q := fun i => decide (i < j + 1) && rdB l.length (grE l) i) hjt (fun i hi hne => by
          show (decide (i < j + 1) && _) = (decide (i < j) && _)
          have : decide (i < j + 1) = decide (i < j) := by rw [decide_eq_decide]; omega
          rw [this])
        simpa using this
      have hrd : rdB l.length (grE l) j = inL (reachL l.length (grE l) j) j := rfl
      have HRd := veil hrd
      clear hrow HL HG hrd
      go_wp2_with fail
      refine (HC.out _ (Below.refl _ _)).mono ?_
      rintro e w1 ⟨aB, rfl, hr1⟩
      obtain ⟨f1, _⟩ := hr1.arr j hjt
      rw [← HRd.out] at f1
      obtain ⟨f2, f3, hf4⟩ := HFin.out _ hr1.below
      have HF4 := veil hf4
      clear hr1 hf4 HC HFin HRd
      go_wp2_with fail
      exact ⟨⟨j + 1, by omega, by go_num, HF4.out⟩, by simp [intOf]; omega⟩
    · have hjn : ¬ (j : Int) < (l.length : Int) := by omega
      have HR : Hid (BRow w w.heap.size l.length (rdB l.length (grE l)) wr) := hrow.same (fun i hi => by
        have : decide (i < j) = true := by simp; omega
        rw [this, Bool.true_and])
      clear hrow HRow HL HG
      go_wp2_with fail
      go_ret
      exact ⟨_, rfl, HR.out⟩

end Go.Proofs.Ytedpiamfpbdhoaa
