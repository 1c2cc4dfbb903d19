/- What alias.Solve answers. -/
import Derived.Test.YtkdailcadcfepafJAlias16
namespace Go.Proofs.Ytkdailcadcfepaf
open Go.RowKit

theorem unmet_nil : ∀ n, unmet [] n = n
  | 0 => rfl
  | n + 1 => by rw [unmet, unmet_nil n]; simp

set_option maxHeartbeats 2000000 in
theorem solveAll_any (S : Nat → Prop) (m : Mo) (l : List Im) (v : ByteArray) (t : Ty) (vm vl vt : Value) (w : World) (hS : ∀ b, S b → b < w.heap.size) (hm : MoIs S w m vm) (hl : SlAt S (ImAt S w) 4 l vl) (hz : ∀ i ∈ l, fcSmall i.face) (hty : ∀ f ∈ m.types, tyFault f.is 1 = 0) (ht : tyFault t 1 = 0) (hvt : TyIs S w t vt) (hn : m.types.length ≤ reachBytes) :
    Calls Try.prog 13 #[vm, vl, .string v, vt] w (Tells w (solveP (topR v (findR m l m.types.length [])) 10 t)) := by
  obtain ⟨vu, vty, vf, rfl, hu, hts, hf⟩ := id hm
  obtain ⟨u1, u2, u3, rfl⟩ := hu.slice
  obtain ⟨t1, t3, rfl⟩ := hts.is
  obtain ⟨f1, f2, f3, rfl⟩ := hf.slice
  obtain ⟨la, ln, lc, rfl⟩ := hl.slice
  obtain ⟨k, fo, na, va, rfl, hcs⟩ := id hvt
  obtain ⟨a, c, cap, rfl⟩ : ∃ a c cap, va = .slice a c cap := by
    obtain ⟨_, _, _, _, hs⟩ := hcs
    exact SlAt.slice hs
  obtain ⟨w2, hwe, hs2, p0, q0, q1, q2, q3, hbel⟩ : ∃ w2, ((w.alloc (.cells #[.slice u1 u2 u3, .slice t1 m.types.length t3, .slice f1 f2 f3] 26)).alloc (.cells #[.string v] 9)).alloc (.cells #[.int .i64 k, .string fo, .string na, .slice a c cap] 37) = w2 ∧ w2.heap.size = w.heap.size + 3 ∧
      w2.cell? ⟨w.heap.size + 1, 0, none⟩ = some (.string v) ∧ w2.cell? ⟨w.heap.size + 2, 0, none⟩ = some (.int .i64 k) ∧ w2.cell? ⟨w.heap.size + 2, 1, none⟩ = some (.string fo) ∧ w2.cell? ⟨w.heap.size + 2, 2, none⟩ = some (.string na) ∧ w2.cell? ⟨w.heap.size + 2, 3, none⟩ = some (.slice a c cap) ∧ Below w.heap.size w w2 :=
    ⟨_, rfl, by simp, by simp [go_sem], by simp [go_sem], by simp [go_sem], by simp [go_sem], by simp [go_sem], (((Below.refl _ _).alloc (Nat.le_refl _) _).alloc (by simp) _).alloc (by simp; omega) _⟩
  have hS2 : ∀ b, S b → b < w2.heap.size := fun b hb => Nat.lt_of_lt_of_le (hS b hb) hbel.size
  have hk2 := Keeps.below hbel hS
  have hm2 := hm.keep hk2
  have hl2 := imSl_keep hk2 hl
  have HAll : Hid (∀ (mB lB tB fB aB gB : Nat) (W : World), SEnv w2 mB lB tB fB aB (.slice u1 u2 u3) (.slice t1 m.types.length t3) (.slice f1 f2 f3) (.slice la ln lc) m.types.length [] W → W.cell? ⟨w.heap.size + 1, 0, none⟩ = some (.string v) → W.cell? ⟨gB, 0, none⟩ = some (fnd mB lB tB fB) → Calls Try.prog 32 #[.agg #[.int .i64 k, .string fo, .string na, .slice a c cap], .func (.func 33) #[] #[.pointer (some ⟨w.heap.size + 1, 0, none⟩), .pointer (some ⟨gB, 0, none⟩)]] W (Tells w2 (solveP (topR v (findR m l m.types.length [])) 10 t))) := fun mB lB tB fB aB gB W henv hv hg => by
    refine solve_B w2 S hS2 (topR v (findR m l m.types.length [])) (fun o n => ?_) (fun W => SEnv w2 mB lB tB fB aB (.slice u1 u2 u3) (.slice t1 m.types.length t3) (.slice f1 f2 f3) (.slice la ln lc) m.types.length [] W ∧ W.cell? ⟨w.heap.size + 1, 0, none⟩ = some (.string v) ∧ W.cell? ⟨gB, 0, none⟩ = some (fnd mB lB tB fB)) (fun _ h => h.1.below) (fun W W' h hb => ⟨h.1.keep hb, (hb.cell (World.block_lt_of_cell? _ _ h.2.1)).trans h.2.1, (hb.cell (World.block_lt_of_cell? _ _ h.2.2)).trans h.2.2⟩) (w.heap.size + 1) gB
      (fun o n W hW => solve1_any w2 v o n (w.heap.size + 1) gB mB lB tB fB _ W hW.1.below hW.2.1 hW.2.2 (find_any w2 S hS2 m l u1 t1 f1 la u2 u3 t3 f2 f3 ln lc hm2 hl2 hz hty mB lB tB fB aB m.types.length [] (by rw [unmet_nil]; exact Nat.le_refl _) o n W hW.1)) 10 t 1 _ W ht (by omega) ⟨henv, hv, hg⟩ (hvt.keep ⟨fun b hb => (henv.below.block b (hS2 b hb)).trans (hbel.block b (hS b hb)), fun _ h => h⟩)
    unfold topR
    split
    · show (1 : Nat) ≤ _
      unfold maxLen; omega
    · exact findR_size hz _ _ o n
  have HF := veil (finder_any m u1 t1 f1 la u2 u3 t3 f2 f3 ln lc w2 hn)
  have HWe := veil hwe
  have HBel := veil hbel
  clear hwe hbel hm hl hu hts hf hvt hcs hm2 hl2 hk2 hz hty ht hn hS2
  generalize solveP (topR v (findR m l m.types.length [])) 10 t = r at *
  go_enter Try.func13, Try.ntmps13
  go_wp2_with fail
  rw [HWe.out]
  refine HF.out.mono ?_
  rintro e w3 ⟨mB, lB, tB, fB, aB, rfl, henv⟩
  have hb3 := henv.below
  have hsz3 := hb3.size
  have hfn : fnd mB lB tB fB = .func (.func 53) #[] #[.pointer (some ⟨mB, 0, none⟩), .pointer (some ⟨lB, 0, none⟩), .pointer (some ⟨tB, 0, none⟩), .pointer (some ⟨fB, 0, none⟩)] := rfl
  have hb4 : Below w3.heap.size w3 (w3.alloc (.cells #[fnd mB lB tB fB] 67)) := (Below.refl _ _).alloc (Nat.le_refl _) _
  have hb5 := hb3.trans (hb4.mono hb3.size)
  have r0 := (hb5.cell (p := ⟨w.heap.size + 2, 0, none⟩) (by show w.heap.size + 2 < _; omega)).trans q0
  have r1 := (hb5.cell (p := ⟨w.heap.size + 2, 1, none⟩) (by show w.heap.size + 2 < _; omega)).trans q1
  have r2 := (hb5.cell (p := ⟨w.heap.size + 2, 2, none⟩) (by show w.heap.size + 2 < _; omega)).trans q2
  have r3 := (hb5.cell (p := ⟨w.heap.size + 2, 3, none⟩) (by show w.heap.size + 2 < _; omega)).trans q3
  have HC := veil (HAll.out mB lB tB fB aB w3.heap.size _ (henv.keep hb4) ((hb5.cell (p := ⟨w.heap.size + 1, 0, none⟩) (by show w.heap.size + 1 < _; omega)).trans p0) (by simp [go_sem]))
  clear henv hb3 hb4 hb5 q0 q1 q2 q3 p0 HAll HF
  rw [hfn] at HC r0 r1 r2 r3 ⊢
  clear hfn
  go_wp2_with fail
  refine HC.out.mono ?_
  rintro e w6 ⟨rfl, hb6⟩
  have HB6 := veil (HBel.out.trans (hb6.mono HBel.out.size))
  clear hb6
  go_wp2_with fail
  go_ret2
  exact ⟨rfl, HB6.out⟩

end Go.Proofs.Ytkdailcadcfepaf
