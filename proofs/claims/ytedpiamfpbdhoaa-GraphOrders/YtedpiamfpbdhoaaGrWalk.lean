/- What the walk of graph.reached meets: those that the plain walk meets. -/
import Derived.Test.YtedpiamfpbdhoaaGrFind
import Derived.BigQuiet
import Derived.Deep.QuietTactic
import Derived.Laws.EntriesVeiled
namespace Go.Proofs.Ytedpiamfpbdhoaa
open Go.RowKit

/-- what a node leads to at once, by places. -/
def grE (l : List Nd) (i : Nat) : List Nat := match l[i]? with
  | some d => d.uses.map (posN l)
  | none => []
theorem grE_at {l : List Nd} {i : Nat} (h : i < l.length) : grE l i = l[i].uses.map (posN l) := by
  unfold grE; rw [List.getElem?_eq_getElem h]

theorem posI_in {l : List Nd} {u : ByteArray} (h : posN l u < l.length) : posI l u = (posN l u : Int) := if_pos h
theorem posI_out {l : List Nd} {u : ByteArray} (h : ¬ posN l u < l.length) : posI l u = -1 := if_neg h

abbrev fndN (gB : Nat) : Value := .func (.func 23) #[] #[.pointer (some ⟨gB, 0, none⟩)]
abbrev wlk (lB fB mB kB : Nat) : Value := .func (.func 32) #[] #[.pointer (some ⟨lB, 0, none⟩), .pointer (some ⟨fB, 0, none⟩), .pointer (some ⟨mB, 0, none⟩), .pointer (some ⟨kB, 0, none⟩)]

/-- what the walk holds. -/
structure GEnv (w0 : World) (lB fB mB kB aB gB : Nat) (lv : Value) (n : Nat) (met : List Nat) (W : World) : Prop where
  below : Below w0.heap.size w0 W
  lc : W.cell? ⟨lB, 0, none⟩ = some lv
  fc : W.cell? ⟨fB, 0, none⟩ = some (fndN gB)
  mc : W.cell? ⟨mB, 0, none⟩ = some (.slice (some ⟨aB, 0, none⟩) n n)
  kc : W.cell? ⟨kB, 0, none⟩ = some (wlk lB fB mB kB)
  arr : ∀ i, i < n → W.cell? ⟨aB, i, none⟩ = some (.bool (inL met i)) ∧ W.frozen? ⟨aB, i, none⟩ = false
  low : w0.heap.size ≤ aB
  ne : aB ≠ lB ∧ aB ≠ fB ∧ aB ≠ mB ∧ aB ≠ kB

theorem GEnv.keep {w0 : World} {lB fB mB kB aB gB : Nat} {lv : Value} {n : Nat} {met : List Nat} {W W' : World} (h : GEnv w0 lB fB mB kB aB gB lv n met W) (hb : Below W.heap.size W W') : GEnv w0 lB fB mB kB aB gB lv n met W' := by
  have hk : ∀ (a : Addr) (v : Value), W.cell? a = some v → W'.cell? a = some v := fun a v hv => (hb.cell (World.block_lt_of_cell? _ _ hv)).trans hv
  refine ⟨h.below.trans (hb.mono h.below.size), hk _ _ h.lc, hk _ _ h.fc, hk _ _ h.mc, hk _ _ h.kc, fun i hi => ?_, h.low, h.ne⟩
  obtain ⟨h1, h2⟩ := h.arr i hi
  exact ⟨hk _ _ h1, (hb.frozen (World.block_lt_of_cell? _ _ h1)).trans h2⟩

theorem GEnv.meet {w0 : World} {lB fB mB kB aB gB : Nat} {lv : Value} {n : Nat} {met : List Nat} {W : World} (h : GEnv w0 lB fB mB kB aB gB lv n met W) {k : Nat} (hk : k < n) : GEnv w0 lB fB mB kB aB gB lv n (k :: met) (W.setCell ⟨aB, k, none⟩ (.bool true)) := by
  obtain ⟨n1, n2, n3, n4⟩ := h.ne
  refine ⟨h.below.setCell h.low _, ?_, ?_, ?_, ?_, fun i hi => ⟨?_, ?_⟩, h.low, h.ne⟩
  · rw [World.cell?_setCell_far _ _ _ _ n1]; exact h.lc
  · rw [World.cell?_setCell_far _ _ _ _ n2]; exact h.fc
  · rw [World.cell?_setCell_far _ _ _ _ n3]; exact h.mc
  · rw [World.cell?_setCell_far _ _ _ _ n4]; exact h.kc
  · obtain ⟨h1, h2⟩ := h.arr i hi
    obtain ⟨h3, _⟩ := h.arr k hk
    by_cases hik : i = k
    · subst hik
      rw [World.cell?_setCell_same (h := h3), inL_cons]
      simp
    · rw [World.cell?_setCell_other (h := by intro e; injection e with _ e; exact hik e.symm), h1, inL_cons]
      simp [hik]
  · obtain ⟨_, h2⟩ := h.arr i hi
    rw [World.frozen?_setCell]; exact h2

set_option maxHeartbeats 4000000 in
theorem walk_step (w0 : World) (S : Nat → Prop) (hS : ∀ b, S b → b < w0.heap.size) (l : List Nd) (la : Option Addr) (lc : Nat) (hl : SlAt S (NdAt S w0) 2 l (.slice la l.length lc)) (lB fB mB kB aB gB : Nat) (hg : w0.cell? ⟨gB, 0, none⟩ = some (.slice la l.length lc)) (u : Nat)
    (ih : ∀ (met : List Nat), outs (inL met) l.length < u → ∀ (k : Nat), k < l.length → ∀ W, GEnv w0 lB fB mB kB aB gB (.slice la l.length lc) l.length met W →
      Calls Try.prog 32 #[.int .i64 k, .pointer (some ⟨lB, 0, none⟩), .pointer (some ⟨fB, 0, none⟩), .pointer (some ⟨mB, 0, none⟩), .pointer (some ⟨kB, 0, none⟩)] W fun e w' => e = .returned (.tuple #[]) ∧ GEnv w0 lB fB mB kB aB gB (.slice la l.length lc) l.length (vis l.length (grE l) u (grE l k) met) w')
    (met : List Nat) (ho : outs (inL met) l.length < u + 1) (k : Nat) (hk : k < l.length) (W : World) (henv : GEnv w0 lB fB mB kB aB gB (.slice la l.length lc) l.length met W) :
    Calls Try.prog 32 #[.int .i64 k, .pointer (some ⟨lB, 0, none⟩), .pointer (some ⟨fB, 0, none⟩), .pointer (some ⟨mB, 0, none⟩), .pointer (some ⟨kB, 0, none⟩)] W fun e w' => e = .returned (.tuple #[]) ∧ GEnv w0 lB fB mB kB aB gB (.slice la l.length lc) l.length (vis l.length (grE l) (u + 1) (grE l k) met) w' := by
  have HL := veil hl
  have HG := veil hg
  have HIH := veil ih
  have HEnv := veil henv
  have c0 := henv.lc
  have hlen := hl.len
  unfold maxLen at hlen
  obtain ⟨_, b, off, rfl, hb, hat⟩ := hl.at hk
  obtain ⟨a1, cap1, x0, m0, x1, hu⟩ := nd_cells hat
  have d1 := (henv.below.cell (p := ⟨b, off + k * 2 + 1, none⟩) (hS b hb)).trans x1
  have HU := veil hu
  have hul := hu.len
  unfold maxLen at hul
  have HO := veil ho
  have HV : Hid (vis l.length (grE l) (u + 1) (grE l k) met = vis l.length (grE l) (u + 1) (l[k].uses.map (posN l)) met) := by show _ = _; rw [grE_at hk]
  have hk' : (k : Int) < (l.length : Int) := by omega
  have hk0 : (0 : Int) ≤ (k : Int) := by omega
  clear hl hg ih henv x0 x1 m0 hat hu ho
  generalize vis l.length (grE l) (u + 1) (grE l k) met = R at *
  generalize l[k].uses = us at *
  go_enter Try.func32, Try.ntmps32
  go_wp2_with fail
  go_loopw [15] (fun i wr => ∃ (j : Nat) (m : List Nat), j ≤ us.length ∧ i = .int .i64 j ∧ R = vis l.length (grE l) (u + 1) ((us.drop j).map (posN l)) m ∧ outs (inL m) l.length < u + 1 ∧ GEnv w0 lB fB mB kB aB gB (.slice (some ⟨b, off, none⟩) l.length lc) l.length m wr) (fun i _ => us.length - (intOf i).toNat)
  case atStart => exact ⟨0, met, Nat.zero_le _, rfl, HV.out, HO.out, HEnv.out⟩
  case round =>
    clear HV HO HEnv c0 d1
    obtain ⟨j, m, hj, rfl, hq, ho, henv⟩ := hrel
    have HQ := veil hq
    have HEnv := veil henv
    have c2 := henv.fc
    have c3 := henv.mc
    have c4 := henv.kc
    clear hq
    by_cases hjt : j < us.length
    · have hjt' : (j : Int) < (us.length : Int) := by omega
      have hj0 : (0 : Int) ≤ (j : Int) := by omega
      obtain ⟨_, b2, off2, rfl, hb2, u0, n0⟩ := HU.out.at hjt
      rw [Nat.mul_one] at u0
      have e0 := (henv.below.cell (p := ⟨b2, off2 + j, none⟩) (hS b2 hb2)).trans u0
      have HF : Hid (Calls Try.prog 23 #[.string us[j], .pointer (some ⟨gB, 0, none⟩)] wr fun e w' => e = .returned (.int .i64 (posI l us[j])) ∧ Below wr.heap.size wr w') :=
        findN_any S l us[j] gB _ wr (fun b hb => Nat.lt_of_lt_of_le (hS b hb) henv.below.size) (ndSl_keep (Keeps.below henv.below hS) HL.out) ((henv.below.cell (World.block_lt_of_cell? _ _ HG.out)).trans HG.out)
      have HD : Hid (R = vis l.length (grE l) (u + 1) (posN l us[j] :: (us.drop (j + 1)).map (posN l)) m) := by
        show _ = _
        rw [HQ.out, List.drop_eq_getElem_cons hjt, List.map_cons]
      clear u0 n0 HQ
      have HArr : Hid (∀ i, i < l.length → wr.cell? ⟨aB, i, none⟩ = some (.bool (inL m i)) ∧ wr.frozen? ⟨aB, i, none⟩ = false) := henv.arr
      by_cases hp : posN l us[j] < l.length
      · rw [posI_in hp] at HF
        generalize us[j] = x at *
        generalize posN l x = p at *
        obtain ⟨g0, gf⟩ := HArr.out p hp
        have hgl := World.block_lt_of_cell? _ _ g0
        have hp' : (p : Int) < (l.length : Int) := by omega
        have hp0 : ¬ (p : Int) < 0 := by omega
        have hp1 : (0 : Int) ≤ (p : Int) := by omega
        have hpd : decide ((p : Int) < 0) = false := by simp
        cases hm : inL m p with
        | true =>
          rw [hm] at g0
          have HG0 := veil g0
          have HR : Hid (R = vis l.length (grE l) (u + 1) ((us.drop (j + 1)).map (posN l)) m) := by
            show _ = _
            rw [HD.out, vis_skip (by rw [hm]; simp)]
          have HB3 : Hid (∀ w', Below wr.heap.size wr w' → (w'.cell? ⟨mB, 0, none⟩ = some (.slice (some ⟨aB, 0, none⟩) l.length l.length) ∧ w'.cell? ⟨aB, p, none⟩ = some (.bool true)) ∧ GEnv w0 lB fB mB kB aB gB (.slice (some ⟨b, off, none⟩) l.length lc) l.length m w') := fun w' h =>
            ⟨⟨(h.cell (World.block_lt_of_cell? _ _ c3)).trans c3, (h.cell (World.block_lt_of_cell? _ _ HG0.out)).trans HG0.out⟩, HEnv.out.keep h⟩
          clear HD HArr HEnv henv HIH HL HG HU c4 hm g0 gf
          go_wp2_with fail
          refine HF.out.mono ?_
          rintro e w1 ⟨rfl, hb1⟩
          obtain ⟨⟨f1, f2⟩, hk3⟩ := HB3.out _ hb1
          have HK3 := veil hk3
          clear hb1 hk3 HB3
          go_wp2_with fail
          exact ⟨⟨j + 1, m, by omega, by go_num, HR.out, ho, HK3.out⟩, by simp [intOf]; omega⟩
        | false =>
          rw [hm] at g0
          have HG0 := veil g0
          have HGf := veil gf
          have HR : Hid (R = vis l.length (grE l) (u + 1) ((us.drop (j + 1)).map (posN l)) (vis l.length (grE l) u (grE l p) (p :: m))) := by
            show _ = _
            rw [HD.out, vis_go (by rw [hm]; simp; omega)]
          have ho2 : outs (inL (p :: m)) l.length < u := by
            have := outs_told hp hm
            omega
          have HO3 : Hid (outs (inL (vis l.length (grE l) u (grE l p) (p :: m))) l.length < u + 1) := by
            show _ < _
            have := outs_le (p := inL (p :: m)) (q := inL (vis l.length (grE l) u (grE l p) (p :: m))) (fun i hi => inL_iff.2 (vis_sub _ _ _ _ (inL_iff.1 hi))) l.length
            omega
          have HW := veil (HIH.out (p :: m) ho2 p hp)
          have HB3 : Hid (∀ w', Below wr.heap.size wr w' → (w'.cell? ⟨mB, 0, none⟩ = some (.slice (some ⟨aB, 0, none⟩) l.length l.length) ∧ w'.cell? ⟨aB, p, none⟩ = some (.bool false) ∧ w'.frozen? ⟨aB, p, none⟩ = false) ∧ (w'.setCell ⟨aB, p, none⟩ (.bool true)).cell? ⟨kB, 0, none⟩ = some (wlk lB fB mB kB) ∧ GEnv w0 lB fB mB kB aB gB (.slice (some ⟨b, off, none⟩) l.length lc) l.length (p :: m) (w'.setCell ⟨aB, p, none⟩ (.bool true))) := fun w' h =>
            ⟨⟨(h.cell (World.block_lt_of_cell? _ _ c3)).trans c3, (h.cell (World.block_lt_of_cell? _ _ HG0.out)).trans HG0.out, (h.frozen (World.block_lt_of_cell? _ _ HG0.out)).trans HGf.out⟩, ((HEnv.out.keep h).meet hp).kc, (HEnv.out.keep h).meet hp⟩
          clear HD HArr HEnv henv HIH HL HG HU c4 hm g0 gf ho2
          go_wp2_with fail
          refine HF.out.mono ?_
          rintro e w1 ⟨rfl, hb1⟩
          obtain ⟨⟨f1, f2, f3⟩, f4, hk3⟩ := HB3.out _ hb1
          have HK3 := veil hk3
          clear hb1 hk3 HB3
          go_wp2_with fail
          refine (HW.out _ HK3.out).mono ?_
          rintro e w2 ⟨rfl, hk4⟩
          have HK4 := veil hk4
          clear hk4 HK3 HW
          go_wp2_with fail
          exact ⟨⟨j + 1, _, by omega, by go_num, HR.out, HO3.out, HK4.out⟩, by simp [intOf]; omega⟩
      · rw [posI_out hp] at HF
        have HR : Hid (R = vis l.length (grE l) (u + 1) ((us.drop (j + 1)).map (posN l)) m) := by
          show _ = _
          rw [HD.out, vis_skip (by simp; omega)]
        have HB3 : Hid (∀ w', Below wr.heap.size wr w' → GEnv w0 lB fB mB kB aB gB (.slice (some ⟨b, off, none⟩) l.length lc) l.length m w') := fun w' h => HEnv.out.keep h
        clear HD HArr HEnv henv HIH HL HG HU c3 c4 hp
        generalize us[j] = x at *
        go_wp2_with fail
        refine HF.out.mono ?_
        rintro e w1 ⟨rfl, hb1⟩
        have HK3 := veil (HB3.out _ hb1)
        clear hb1 HB3
        go_wp2_with fail
        exact ⟨⟨j + 1, m, by omega, by go_num, HR.out, ho, HK3.out⟩, by simp [intOf]; omega⟩
    · have hnk : ¬ (j : Int) < (us.length : Int) := by omega
      have HR : Hid (R = m) := by show _ = _; rw [HQ.out, List.drop_eq_nil_of_le (by omega)]; exact vis_nil
      clear HQ HIH HL HG HU henv c2 c3 c4
      go_wp2_with fail
      go_end0
      exact ⟨rfl, by rw [HR.out]; exact HEnv.out⟩

theorem walk_any (w0 : World) (S : Nat → Prop) (hS : ∀ b, S b → b < w0.heap.size) (l : List Nd) (la : Option Addr) (lc : Nat) (hl : SlAt S (NdAt S w0) 2 l (.slice la l.length lc)) (lB fB mB kB aB gB : Nat) (hg : w0.cell? ⟨gB, 0, none⟩ = some (.slice la l.length lc)) : ∀ (u : Nat)
    (met : List Nat), outs (inL met) l.length < u → ∀ (k : Nat), k < l.length → ∀ W, GEnv w0 lB fB mB kB aB gB (.slice la l.length lc) l.length met W →
      Calls Try.prog 32 #[.int .i64 k, .pointer (some ⟨lB, 0, none⟩), .pointer (some ⟨fB, 0, none⟩), .pointer (some ⟨mB, 0, none⟩), .pointer (some ⟨kB, 0, none⟩)] W fun e w' => e = .returned (.tuple #[]) ∧ GEnv w0 lB fB mB kB aB gB (.slice la l.length lc) l.length (vis l.length (grE l) u (grE l k) met) w'
  | 0, _, h, _, _, _, _ => absurd h (by omega)
  | u + 1, met, ho, k, hk, W, henv => walk_step w0 S hS l la lc hl lB fB mB kB aB gB hg u (walk_any w0 S hS l la lc hl lB fB mB kB aB gB hg u) met ho k hk W henv

end Go.Proofs.Ytedpiamfpbdhoaa
