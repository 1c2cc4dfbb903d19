/- What alias.finder makes: a closure that has met no type yet. -/
import Derived.Test.YtkdailcadcfepafJAlias15
import Derived.Laws.EntriesVeiled
namespace Go.Proofs.Ytkdailcadcfepaf
open Go.RowKit

theorem bool_info : (Try.prog.info? 4).map (fun i => (i.zero, i.size, i.bytes)) = some (some (.bool false), 1, 1) := by kernel_rfl

theorem made_bools (n : Nat) (hb : n ≤ 281474976710656) :
    ∃ arr : Array Value, (∀ i, i < n → arr[i]? = some (.bool false)) ∧ ∀ w, (Instr.makeSlice 95 (.int .i64 (n : Int)) (.int .i64 (n : Int))).run Try.prog w = .ok (.slice (some ⟨w.heap.size, 0, none⟩) n n) (w.alloc (.cells arr 4)) := by
  obtain ⟨i, h1, h2, h3, h4⟩ := info_parts bool_info
  refine ⟨madeCells (Value.bool false).cells n, fun j hj => ?_, fun w => ?_⟩
  · simp [madeCells, Value.cells, hj]
    rw [Nat.mod_one]; rfl
  have hb' : (i.bytes : Int) * (n : Int) ≤ 281474976710656 := by
    rw [h4]
    omega
  have := run_make (P := Try.prog) w 95 4 i (.bool false) Try.underlying95 h1 h2 .i64 .i64 n n (by omega) (Int.le_refl _) hb' (by omega)
  rw [h3] at this
  simpa using this

set_option maxHeartbeats 2000000 in
theorem finder_any (m : Mo) (u1 t1 f1 la : Option Addr) (u2 u3 t3 f2 f3 ln lc : Nat) (w : World) (hn : m.types.length ≤ reachBytes) :
    Calls Try.prog 31 #[.agg #[.slice u1 u2 u3, .slice t1 m.types.length t3, .slice f1 f2 f3], .slice la ln lc] w fun e w' => ∃ mB lB tB fB aB, e = .returned (fnd mB lB tB fB) ∧ SEnv w mB lB tB fB aB (.slice u1 u2 u3) (.slice t1 m.types.length t3) (.slice f1 f2 f3) (.slice la ln lc) m.types.length [] w' := by
  have hr := reachBytes_lt
  obtain ⟨arr, harr, hmk⟩ := made_bools m.types.length (by omega)
  have HEnv : Hid (SEnv w w.heap.size (w.heap.size + 1) (w.heap.size + 1 + 1 + 1) (w.heap.size + 1 + 1 + 1 + 1) (w.heap.size + 1 + 1) (.slice u1 u2 u3) (.slice t1 m.types.length t3) (.slice f1 f2 f3) (.slice la ln lc) m.types.length []
      (((((w.alloc (.cells #[.slice u1 u2 u3, .slice t1 m.types.length t3, .slice f1 f2 f3] 26)).alloc (.cells #[.slice la ln lc] 27)).alloc (.cells arr 4)).alloc (.cells #[.slice (some ⟨w.heap.size + 1 + 1, 0, none⟩) m.types.length m.types.length] 95)).alloc (.cells #[fnd w.heap.size (w.heap.size + 1) (w.heap.size + 1 + 1 + 1) (w.heap.size + 1 + 1 + 1 + 1)] 67))) := by
    refine ⟨((((((Below.refl _ _).alloc (Nat.le_refl _) _).alloc (by simp) _).alloc (by simp; omega) _).alloc (by simp; omega) _).alloc (by simp; omega) _), by simp [go_sem], by simp [go_sem], by simp [go_sem], by simp [go_sem], by simp [go_sem], by simp [go_sem], fun i hi => ⟨?_, by simp [go_sem]⟩, by omega, by omega, by omega, by omega, by omega⟩
    have := harr i hi
    simp [go_sem, this]
  clear harr
  go_enter Try.func31, Try.ntmps31
  go_wp2_with fail
  go_ret
  exact ⟨_, _, _, _, _, rfl, HEnv.out⟩

end Go.Proofs.Ytkdailcadcfepaf
