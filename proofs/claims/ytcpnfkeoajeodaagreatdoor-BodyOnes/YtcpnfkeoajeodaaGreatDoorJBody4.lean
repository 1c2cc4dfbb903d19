/- What the reference's isOf answers at a call of a function of own. -/
import Derived.Test.YtcpnfkeoajeodaaGreatDoorJBody3
import Derived.Test.YtcpnfkeoajeodaaGreatDoorJBq
namespace Go.Proofs.YtcpnfkeoajeodaaGreatDoor
open Go.RowKit
set_option maxRecDepth 100000

set_option maxRecDepth 100000 in
set_option maxHeartbeats 8000000 in
theorem isOf_own (S : Nat → Prop) (ps : List Kn) (fc : ByteArray → Fc) (vm vl vo vp : Value) (w W : World) (hS : ∀ b, S b → b < w.heap.size) (hW : Below w.heap.size w W) (hvm : ∃ a b c d e f g h i, vm = .agg #[.slice a b c, .slice d e f, .slice g h i]) (hvl : ∃ a b c, vl = .slice a b c) (hvo : ∃ a b c d e f, vo = .agg #[.slice a b c, .slice d e f]) (hvp : ∃ a b c, vp = .slice a b c) (d : Nat)
    (hIH : ∀ (x : Ex) (v : Value) (W : World), Below w.heap.size w W → exFault x (d + 1) = 0 → ExIs S w x v → Calls Tryz.prog 18 #[vm, vl, vo, vp, v] W (IsAns ps fc x W))
    (num : Int) (o s : ByteArray) (xs : List Ex) (xv : Value) (hx : exFault (.mk 4 num o s xs) d = 0) (hsl : SlAt S (ExAt S w) 5 xs xv) (hSz : ∀ x, (exIs ps fc x).1.size ≤ maxLen)
    (ho : o.toList.isEmpty = true) (hfo : FcIs S w (fc o) vo) :
    Calls Tryz.prog 18 #[vm, vl, vo, vp, .agg #[.int .i64 4, .int .i64 num, .string o, .string s, xv]] W (IsAns ps fc (.mk 4 num o s xs) W) := by
  have HFi : Hid (∀ W, Below w.heap.size w W → Calls Tryz.prog 40 #[vo, .string s] W fun e w' => ∃ a n cap, e = .returned (.tuple #[.agg #[.string (funcVal (fc o) s).name, .slice a n cap, .string (funcVal (fc o) s).result], .int .i64 (funcErr (fc o) s)]) ∧ SgIs S w' (funcVal (fc o) s) (.agg #[.string (funcVal (fc o) s).name, .slice a n cap, .string (funcVal (fc o) s).result]) ∧ Below W.heap.size W w') := fun W hW =>
    funcIn_S S (fc o) s _ W (fun b hb => Nat.lt_of_lt_of_le (hS b hb) hW.size) (hfo.keep (Keeps.below hW hS))
  obtain ⟨u1, u2, u3, t1, t2, t3, f1, f2, f3, rfl⟩ := hvm
  obtain ⟨la, ln, lc, rfl⟩ := hvl
  obtain ⟨o1, o2, o3, o4, o5, o6, rfl⟩ := hvo
  obtain ⟨p1, p2, p3, rfl⟩ := hvp
  obtain ⟨_, _, h8, _, _, hxs⟩ := ex_parts hx
  have HSL := veil hsl
  obtain ⟨xa, xc, rfl⟩ := hsl.is
  have HE : Hid (exIs ps fc (.mk 4 num o s xs) = if callErr fc o s xs.length = 0 then endIs 4 (funcVal (fc o) s) (exsIs ps fc xs) else badEx (callErr fc o s xs.length)) := by show _ = _; rw [exIs, if_neg (by omega), if_neg (by omega), if_neg (by omega), if_pos rfl]
  have HCe : Hid (callErr fc o s xs.length = if funcErr (fc o) s = 0 then (if (funcVal (fc o) s).params.length = xs.length then 0 else 7) else 6) := rfl
  have HIH := veil hIH
  have HXs := veil (exsFault_mem hxs)
  unfold IsAns
  clear hsl hIH hxs hx hfo
  generalize exIs ps fc (.mk 4 num o s xs) = ans at *
  generalize callErr fc o s xs.length = ce at *
  generalize hsg : funcVal (fc o) s = sg at *
  generalize hfe : funcErr (fc o) s = fe at *
  clear hsg hfe
  obtain ⟨W5, hwe, hs5, hA, b0, b1, b2, b3, b4, b5, b6, c0, c1, c2, e0, e1, e2⟩ : ∃ W5, (((((W.alloc (.cells #[.slice u1 u2 u3, .slice t1 t2 t3, .slice f1 f2 f3] 26)).alloc (.cells #[.slice o1 o2 o3, .slice o4 o5 o6] 31)).alloc (.cells #[.int .i64 4, .int .i64 num, .string o, .string s, .slice xa xs.length xc] 52)).alloc (.cells #[.string ⟨#[]⟩, .slice none 0 0, .string ⟨#[]⟩] 44)).alloc (.cells #[.slice o1 o2 o3, .slice o4 o5 o6] 31)) = W5 ∧ W5.heap.size = W.heap.size + 5 ∧ Below W.heap.size W W5 ∧
      W5.cell? ⟨W.heap.size, 0, none⟩ = some (.slice u1 u2 u3) ∧ W5.cell? ⟨W.heap.size, 1, none⟩ = some (.slice t1 t2 t3) ∧ W5.cell? ⟨W.heap.size, 2, none⟩ = some (.slice f1 f2 f3) ∧ W5.cell? ⟨W.heap.size + 1, 0, none⟩ = some (.slice o1 o2 o3) ∧ W5.cell? ⟨W.heap.size + 1, 1, none⟩ = some (.slice o4 o5 o6) ∧ W5.cell? ⟨W.heap.size + 2, 0, none⟩ = some (.int .i64 4) ∧ W5.cell? ⟨W.heap.size + 2, 4, none⟩ = some (.slice xa xs.length xc) ∧
      W5.cell? ⟨W.heap.size + 3, 0, none⟩ = some (.string ⟨#[]⟩) ∧ W5.cell? ⟨W.heap.size + 3, 1, none⟩ = some (.slice none 0 0) ∧ W5.cell? ⟨W.heap.size + 3, 2, none⟩ = some (.string ⟨#[]⟩) ∧ W5.frozen? ⟨W.heap.size + 3, 0, none⟩ = false ∧ W5.frozen? ⟨W.heap.size + 3, 1, none⟩ = false ∧ W5.frozen? ⟨W.heap.size + 3, 2, none⟩ = false :=
    ⟨_, rfl, by simp, (((((Below.refl _ _).alloc (Nat.le_refl _) _).alloc (by simp) _).alloc (by simp; omega) _).alloc (by simp; omega) _).alloc (by simp; omega) _, by simp [go_sem], by simp [go_sem], by simp [go_sem], by simp [go_sem], by simp [go_sem], by simp [go_sem], by simp [go_sem], by simp [go_sem], by simp [go_sem], by simp [go_sem], by simp [go_sem], by simp [go_sem], by simp [go_sem]⟩
  have HWe := veil hwe
  have HwW := veil hW
  have hwW := hW.size
  have hs5' : W.heap.size + 5 ≤ W5.heap.size := by omega
  have HBox5 : Hid (∀ W', Below W5.heap.size W5 W' → (W'.cell? ⟨W.heap.size, 0, none⟩ = some (.slice u1 u2 u3) ∧ W'.cell? ⟨W.heap.size, 1, none⟩ = some (.slice t1 t2 t3) ∧ W'.cell? ⟨W.heap.size, 2, none⟩ = some (.slice f1 f2 f3) ∧ W'.cell? ⟨W.heap.size + 1, 0, none⟩ = some (.slice o1 o2 o3) ∧ W'.cell? ⟨W.heap.size + 1, 1, none⟩ = some (.slice o4 o5 o6) ∧ W'.cell? ⟨W.heap.size + 2, 0, none⟩ = some (.int .i64 4) ∧ W'.cell? ⟨W.heap.size + 2, 4, none⟩ = some (.slice xa xs.length xc)) ∧
      ((W'.cell? ⟨W.heap.size + 3, 0, none⟩ = some (.string ⟨#[]⟩) ∧ W'.cell? ⟨W.heap.size + 3, 1, none⟩ = some (.slice none 0 0) ∧ W'.cell? ⟨W.heap.size + 3, 2, none⟩ = some (.string ⟨#[]⟩)) ∧ W'.frozen? ⟨W.heap.size + 3, 0, none⟩ = false ∧ W'.frozen? ⟨W.heap.size + 3, 1, none⟩ = false ∧ W'.frozen? ⟨W.heap.size + 3, 2, none⟩ = false) ∧ Below W.heap.size W W') := fun W' h => by
    have l0 : W.heap.size < W5.heap.size := by omega
    have l1 : W.heap.size + 1 < W5.heap.size := by omega
    have l2 : W.heap.size + 2 < W5.heap.size := by omega
    have l3 : W.heap.size + 3 < W5.heap.size := by omega
    exact ⟨⟨(h.cell (p := ⟨W.heap.size, 0, none⟩) l0).trans b0, (h.cell (p := ⟨W.heap.size, 1, none⟩) l0).trans b1, (h.cell (p := ⟨W.heap.size, 2, none⟩) l0).trans b2, (h.cell (p := ⟨W.heap.size + 1, 0, none⟩) l1).trans b3, (h.cell (p := ⟨W.heap.size + 1, 1, none⟩) l1).trans b4, (h.cell (p := ⟨W.heap.size + 2, 0, none⟩) l2).trans b5, (h.cell (p := ⟨W.heap.size + 2, 4, none⟩) l2).trans b6⟩,
      ⟨⟨(h.cell (p := ⟨W.heap.size + 3, 0, none⟩) l3).trans c0, (h.cell (p := ⟨W.heap.size + 3, 1, none⟩) l3).trans c1, (h.cell (p := ⟨W.heap.size + 3, 2, none⟩) l3).trans c2⟩, (h.frozen (p := ⟨W.heap.size + 3, 0, none⟩) l3).trans e0, (h.frozen (p := ⟨W.heap.size + 3, 1, none⟩) l3).trans e1, (h.frozen (p := ⟨W.heap.size + 3, 2, none⟩) l3).trans e2⟩, hA.trans (h.mono hA.size)⟩
  have HFi2 := veil (HFi.out W5 (hW.trans (hA.mono hwW)))
  clear hwe hs5 hA b0 b1 b2 b3 b4 b5 b6 c0 c1 c2 e0 e1 e2 hW HFi
  go_enter Tryz.func18, Tryz.ntmps18
  go_wp2_with fail
  rw [HWe.out]
  clear HWe
  refine HFi2.out.mono ?_
  rintro e w6 ⟨ga, gn, gc, rfl, hsg, hb6⟩
  have HB6 := veil hb6
  obtain ⟨hgn, hgr, hgp⟩ := sgIs_slice hsg
  subst hgn
  have hgl := hgp.len
  unfold maxLen at hgl
  have hxl : xs.length ≤ 9223372036854775807 := by omega
  obtain ⟨W7, HW7, hs7, hb67, h0, h1, h2⟩ : ∃ W7, Hid (w6.alloc (.cells #[.string sg.name, .slice ga sg.params.length gc, .string sg.result] 44) = W7) ∧ W7.heap.size = w6.heap.size + 1 ∧ Below w6.heap.size w6 W7 ∧ W7.cell? ⟨w6.heap.size, 0, none⟩ = some (.string sg.name) ∧ W7.cell? ⟨w6.heap.size, 1, none⟩ = some (.slice ga sg.params.length gc) ∧ W7.cell? ⟨w6.heap.size, 2, none⟩ = some (.string sg.result) :=
    ⟨_, rfl, by simp, (Below.refl _ _).alloc (Nat.le_refl _) _, by simp [go_sem], by simp [go_sem], by simp [go_sem]⟩
  have hSw6 : ∀ b, S b → b < W.heap.size := fun b hb => Nat.lt_of_lt_of_le (hS b hb) hwW
  have hW6 : W.heap.size ≤ w6.heap.size := Nat.le_trans (by omega) hb6.size
  have hgp7 := strSl_keep (S' := S) (w' := W7) ⟨fun b hb => hb67.block b (Nat.lt_of_lt_of_le (hSw6 b hb) hW6), fun b hb => hb⟩ hgp
  obtain ⟨⟨b0, b1, b2, b3, b4, b5, b6⟩, ⟨⟨c0, c1, c2⟩, e0, e1, e2⟩, hbW7⟩ := HBox5.out W7 (hb6.trans (hb67.mono hb6.size))
  have hs56 : W5.heap.size ≤ w6.heap.size := HB6.out.size
  have HBW7 := veil hbW7
  have HGp7 := veil hgp7
  have HGr := veil hgr
  clear hsg hb6 hbW7 hb67 hgp hgp7 hgr HFi2
  generalize hsn : sg.name = sn at *
  generalize hsr : sg.result = sr at *
  generalize hsp : sg.params.length = sp at *
  have HSr := veil hsr
  have HSp := veil hsp
  clear hsn hsr hsp
  by_cases hfe : fe = 0
  · subst hfe
    by_cases hln : sp = xs.length
    · have hce : ce = 0 := by rw [HCe.out, if_pos rfl, if_pos hln]
      have HR : Hid (ans = endIs 4 sg (exsIs ps fc xs)) := by show _ = _; rw [HE.out, if_pos hce]
      have hne : ((sp : Int) != (xs.length : Int)) = false := by simp [hln]
      clear hce HE HCe hln
      obtain ⟨W4, HW4, hs4, hbW4, s1, s2, hcell⟩ : ∃ W4, Hid (((W7.setCell ⟨W.heap.size + 1 + 1 + 1, 0, none⟩ (.string sn)).setCell ⟨W.heap.size + 1 + 1 + 1, 1, none⟩ (.slice ga sp gc)).setCell ⟨W.heap.size + 1 + 1 + 1, 2, none⟩ (.string sr) = W4) ∧ W4.heap.size = W7.heap.size ∧ Below W.heap.size W W4 ∧ W4.cell? ⟨W.heap.size + 3, 1, none⟩ = some (.slice ga sp gc) ∧ W4.cell? ⟨W.heap.size + 3, 2, none⟩ = some (.string sr) ∧ ∀ b, b ≠ W.heap.size + 3 → W4.heap[b]? = W7.heap[b]? := by
        have hn21 : (⟨W.heap.size + 1 + 1 + 1, 2, none⟩ : Addr) ≠ ⟨W.heap.size + 3, 1, none⟩ := fun e => absurd (show (2 : Nat) = 1 from congrArg Addr.off e) (by decide)
        have hn01 : (⟨W.heap.size + 1 + 1 + 1, 0, none⟩ : Addr) ≠ ⟨W.heap.size + 1 + 1 + 1, 1, none⟩ := fun e => absurd (show (0 : Nat) = 1 from congrArg Addr.off e) (by decide)
        have hn12 : (⟨W.heap.size + 1 + 1 + 1, 1, none⟩ : Addr) ≠ ⟨W.heap.size + 1 + 1 + 1, 2, none⟩ := fun e => absurd (show (1 : Nat) = 2 from congrArg Addr.off e) (by decide)
        have hn02 : (⟨W.heap.size + 1 + 1 + 1, 0, none⟩ : Addr) ≠ ⟨W.heap.size + 1 + 1 + 1, 2, none⟩ := fun e => absurd (show (0 : Nat) = 2 from congrArg Addr.off e) (by decide)
        refine ⟨_, rfl, by simp, ((HBW7.out.setCell (by show W.heap.size ≤ W.heap.size + 1 + 1 + 1; omega) _).setCell (by show W.heap.size ≤ W.heap.size + 1 + 1 + 1; omega) _).setCell (by show W.heap.size ≤ W.heap.size + 1 + 1 + 1; omega) _, ?_, ?_, fun b hb => ?_⟩
        · rw [World.cell?_setCell_other (h := hn21)]
          exact World.cell?_setCell_same _ _ _ ((World.cell?_setCell_other _ _ _ _ hn01).trans c1)
        · exact World.cell?_setCell_same _ _ _ ((World.cell?_setCell_other _ _ _ _ hn12).trans ((World.cell?_setCell_other _ _ _ _ hn02).trans c2))
        · rw [Below.heap_setCell _ _ _ _ (by show b ≠ W.heap.size + 1 + 1 + 1; omega), Below.heap_setCell _ _ _ _ (by show b ≠ W.heap.size + 1 + 1 + 1; omega), Below.heap_setCell _ _ _ _ (by show b ≠ W.heap.size + 1 + 1 + 1; omega)]
      have hc4 : ∀ (p : Addr) v, p.block ≠ W.heap.size + 3 → W7.cell? p = some v → W4.cell? p = some v := fun p v hp h => by
        have : W4.cell? p = W7.cell? p := by unfold World.cell?; rw [hcell _ hp]
        rw [this]; exact h
      have a0 := hc4 _ _ (by show W.heap.size ≠ _; omega) b0
      have a1 := hc4 _ _ (by show W.heap.size ≠ _; omega) b1
      have a2 := hc4 _ _ (by show W.heap.size ≠ _; omega) b2
      have a3 := hc4 _ _ (by show W.heap.size + 1 ≠ _; omega) b3
      have a4 := hc4 _ _ (by show W.heap.size + 1 ≠ _; omega) b4
      have a5 := hc4 _ _ (by show W.heap.size + 2 ≠ _; omega) b5
      have a6 := hc4 _ _ (by show W.heap.size + 2 ≠ _; omega) b6
      have hs4' : W.heap.size + 5 ≤ W4.heap.size := by omega
      have hgp4 := strSl_keep (S' := S) (w' := W4) ⟨fun b hb => hcell b (by have := hSw6 b hb; omega), fun b hb => hb⟩ HGp7.out
      have HSgp : Hid (∀ W', Below W4.heap.size W4 W' → StrRow W' (.slice ga sp gc) sg.params) := fun W' h => strRow_of (strSl_keep (Keeps.below h (fun b hb => by have := hSw6 b hb; omega)) hgp4)
      have HBox : Hid (∀ W', Below W4.heap.size W4 W' → (W'.cell? ⟨W.heap.size, 0, none⟩ = some (.slice u1 u2 u3) ∧ W'.cell? ⟨W.heap.size, 1, none⟩ = some (.slice t1 t2 t3) ∧ W'.cell? ⟨W.heap.size, 2, none⟩ = some (.slice f1 f2 f3) ∧ W'.cell? ⟨W.heap.size + 1, 0, none⟩ = some (.slice o1 o2 o3) ∧ W'.cell? ⟨W.heap.size + 1, 1, none⟩ = some (.slice o4 o5 o6) ∧ W'.cell? ⟨W.heap.size + 2, 0, none⟩ = some (.int .i64 4) ∧ W'.cell? ⟨W.heap.size + 2, 4, none⟩ = some (.slice xa xs.length xc) ∧ W'.cell? ⟨W.heap.size + 3, 1, none⟩ = some (.slice ga sp gc) ∧ W'.cell? ⟨W.heap.size + 3, 2, none⟩ = some (.string sr)) ∧ Below W.heap.size W W') := fun W' h =>
        ⟨⟨(h.cell (p := ⟨W.heap.size, 0, none⟩) (by show W.heap.size < _; omega)).trans a0, (h.cell (p := ⟨W.heap.size, 1, none⟩) (by show W.heap.size < _; omega)).trans a1, (h.cell (p := ⟨W.heap.size, 2, none⟩) (by show W.heap.size < _; omega)).trans a2, (h.cell (p := ⟨W.heap.size + 1, 0, none⟩) (by show W.heap.size + 1 < _; omega)).trans a3, (h.cell (p := ⟨W.heap.size + 1, 1, none⟩) (by show W.heap.size + 1 < _; omega)).trans a4, (h.cell (p := ⟨W.heap.size + 2, 0, none⟩) (by show W.heap.size + 2 < _; omega)).trans a5, (h.cell (p := ⟨W.heap.size + 2, 4, none⟩) (by show W.heap.size + 2 < _; omega)).trans a6, (h.cell (p := ⟨W.heap.size + 3, 1, none⟩) (by show W.heap.size + 3 < _; omega)).trans s1, (h.cell (p := ⟨W.heap.size + 3, 2, none⟩) (by show W.heap.size + 3 < _; omega)).trans s2⟩, hbW4.trans (h.mono hbW4.size)⟩
      obtain ⟨i0, hi, hz0, hz1, hz2⟩ := info_parts str_info
      clear hcell hc4 a0 a1 a2 a3 a4 a5 a6 s1 s2 hgp4 hbW4 hs4 HBox5 HGp7 hSw6
      go_wp2_with (first | (rw [HW7.out]; clear HW7) | fail)
      rw [HW4.out]
      clear HW4 b0 b1 b2 b3 b4 b5 b6 c0 c1 c2 e0 e1 e2 h0 h1 h2
      go_loopw [17, 18] (fun v i wr => ∃ j : Nat, j ≤ xs.length ∧ i = .int .i64 j ∧ wr.ownsRow W4.heap.size 9 1 v j (strVals ((xs.take j).map (fun x => (exIs ps fc x).1))) ∧ (∀ q (_ : q < j) (hq : q < xs.length), (exIs ps fc xs[q]).2 = 0) ∧ Below W4.heap.size W4 wr) (fun _ i _ => xs.length - (intOf i).toNat)
      case atStart => exact ⟨0, Nat.zero_le _, rfl, World.ownsRow_nil _ _ _ _, (fun q h => by omega), Below.refl _ _⟩
      case round =>
        obtain ⟨j, hj, rfl, hown, hall, hb⟩ := hrel
        obtain ⟨⟨b0, b1, b2, b3, b4, b5, b6, b7, b8⟩, hbW⟩ := HBox.out wr hb
        have hbw := HwW.out.trans (hbW.mono hwW)
        have hsr := hb.size
        have HOwn := veil hown
        have HAll := veil hall
        have HB := veil hb
        clear hown hall hb
        by_cases hlt : j < xs.length
        · have hlt' : (j : Int) < (xs.length : Int) := by omega
          have hj0 : (0 : Int) ≤ (j : Int) := by omega
          obtain ⟨_, b, off, rfl, hbk, hat⟩ := HSL.out.at hlt
          obtain ⟨kd, nu, fo, na, va, c0, c1, c2, c3, c4, hcs⟩ := exAt_cells.1 hat
          obtain ⟨va1, va2, va3, rfl⟩ := hcs.slice
          have hbk' := hS b hbk
          have d0 := (hbw.cell (p := ⟨b, off + j * 5, none⟩) hbk').trans c0
          have d1 := (hbw.cell (p := ⟨b, off + j * 5 + 1, none⟩) hbk').trans c1
          have d2 := (hbw.cell (p := ⟨b, off + j * 5 + 2, none⟩) hbk').trans c2
          have d3 := (hbw.cell (p := ⟨b, off + j * 5 + 3, none⟩) hbk').trans c3
          have d4 := (hbw.cell (p := ⟨b, off + j * 5 + 4, none⟩) hbk').trans c4
          have HCall : Hid (∀ W, Below w.heap.size w W → Calls Tryz.prog 18 #[.agg #[.slice u1 u2 u3, .slice t1 t2 t3, .slice f1 f2 f3], .slice la ln lc, .agg #[.slice o1 o2 o3, .slice o4 o5 o6], .slice p1 p2 p3, .agg #[.int .i64 kd, .int .i64 nu, .string fo, .string na, .slice va1 va2 va3]] W (IsAns ps fc xs[j] W)) := fun W hW =>
            HIH.out xs[j] _ W hW (HXs.out _ (List.getElem_mem hlt)) ⟨_, _, _, _, _, rfl, hcs⟩
          have HBd := veil hbw.drew
          have HBad : Hid ((exIs ps fc xs[j]).2 ≠ 0 → endIs 4 sg (exsIs ps fc xs) = badEx (exIs ps fc xs[j]).2) := fun h => endIs_bad hlt (fun q hq => HAll.out q hq (by omega)) h
          have HAll' : Hid ((exIs ps fc xs[j]).2 = 0 → ∀ q (_ : q < j + 1) (hq : q < xs.length), (exIs ps fc xs[q]).2 = 0) := fun h q hq hq' => by
            by_cases e : q = j
            · subst e; exact h
            · exact HAll.out q (by omega) hq'
          have HTake : Hid (strVals ((xs.take (j + 1)).map (fun x => (exIs ps fc x).1)) = strVals ((xs.take j).map (fun x => (exIs ps fc x).1)) ++ [.string (exIs ps fc xs[j]).1]) := by
            show _ = _
            rw [← List.take_append_getElem hlt, List.map_append]
            simp only [strVals, List.map_append, List.map_cons, List.map_nil]
          clear c0 c1 c2 c3 c4 hcs hat HSL HIH HXs HAll hbW
          unfold IsAns at HCall
          generalize exIs ps fc xs[j] = r at *
          obtain ⟨rs, rc⟩ := r
          generalize strVals ((xs.take j).map (fun x => (exIs ps fc x).1)) = vals at *
          go_wp2_with fail
          go_region_with (go_at_call 18; refine (HCall.out _ HBd.out).mono ?_; rintro e w6 ⟨rfl, hb6⟩)
          all_goals
            have hb56 : Below wr.heap.size wr w6 := (Below.refl _ _).drew.trans (hb6.mono (Nat.le_refl _))
            have HB6 := veil (HB.out.trans (hb56.mono hsr))
            have hown6 := ownsRow_later HOwn.out hb56
            have hs6 := HB6.out.size
            have HBW6 := veil (HBox.out w6 HB6.out).2
            clear hb56 hb6 b0 b1 b2 b3 b4 b5 b6 b7 b8 d0 d1 d2 d3 d4 HCall HBd HOwn HB
            by_cases hc : rc = 0
            · subst hc
              have HAll6 := veil (HAll'.out rfl)
              clear HBad HAll' HBox
              go_wp2_with (at_builtin; refine wpList_append_lies _ rfl _ _ 22 rfl W4.heap.size 9 i0 (.string ⟨#[]⟩) 1 16 Tryz.underlying22 hi hz0 hz1 hz2 rfl (by decide) _ _ _ rfl (hown6.alloc _) ⟨w6.heap.size, 0, none⟩ 1 1 [.string rs] rfl rfl (one_str _ _) (one_strs _) (by decide) (by unfold maxLen; omega) (by omega) (by simp; omega) (w6.heap.size + 1) (by simp) ?_)
              intro g7 cap7 w7 hown7 hgrow7 hat7 hlt7
              have hrow := ownsRow_at hown6
              have HB7 : Hid (Below W4.heap.size W4 w7) := (HB6.out.alloc (by omega) (.cells #[.string rs] 9)).grown hgrow7 (by simp; omega) (fun j hj => by have := hrow j hj; omega)
              have HOwn7 : Hid (w7.ownsRow W4.heap.size 9 1 (.slice (some ⟨g7, 0, none⟩) (j + 1) cap7) (j + 1) (strVals ((xs.take (j + 1)).map (fun x => (exIs ps fc x).1)))) := by
                show w7.ownsRow _ _ _ _ _ _
                rw [HTake.out]
                exact hown7
              clear hown7 hgrow7 hat7 hlt7 hrow hown6 HTake
              go_wp2_with fail
              exact ⟨⟨j + 1, by omega, by go_num, HOwn7.out, HAll6.out, HB7.out⟩, by simp [intOf]; omega⟩
            · have hc' : (rc != 0) = true := by simp [hc]
              have HBdd : Hid (ans = badEx rc) := HR.out.trans (HBad.out hc)
              clear HAll' HTake HBox hc HBad hown6
              go_wp2_with fail
              go_ret2
              exact ⟨by rw [HBdd.out]; rfl, HBW6.out⟩
        · have hnl : ¬ (j : Int) < (xs.length : Int) := by omega
          have hje : j = xs.length := by omega
          subst hje
          have HFin : Hid (endIs 4 sg (exsIs ps fc xs) = finIs 4 sg (xs.map (fun x => (exIs ps fc x).1))) := endIs_good (fun q hq => HAll.out q hq hq)
          have htk : xs.take xs.length = xs := List.take_length
          rw [htk] at HOwn
          have hl : (xs.map (fun x => (exIs ps fc x).1)).length = xs.length := List.length_map ..
          have HIsz : Hid (∀ t ∈ xs.map (fun x => (exIs ps fc x).1), t.size ≤ maxLen) := fun t ht => by
            obtain ⟨z, _, rfl⟩ := List.mem_map.1 ht
            exact hSz z
          clear HIH HXs HAll HSL htk
          generalize hT : xs.map (fun x => (exIs ps fc x).1) = is at *
          clear hT
          have hRow : SlAt (fun b => b < wr.heap.size) (StrAt wr) 1 is _ := ownsRow_strs (B := W4.heap.size) (by rw [hl]; exact HOwn.out) (by rw [hl]; unfold maxLen; omega) HIsz.out
          obtain ⟨ra, rcp, hv, hrest⟩ := hRow
          rw [hl] at hv
          subst hv
          have hRow2 : SlAt (fun b => b < wr.heap.size) (StrAt wr) 1 is (.slice ra xs.length rcp) := ⟨ra, rcp, by rw [hl], hrest⟩
          have HA : Hid (Calls Tryz.prog 41 #[.slice ga sp gc, .slice ra xs.length rcp, .string sr] wr fun e w' => e = .returned (.tuple #[.string (allVal sg.params is sr), .int .i64 (allErr sg.params is sr)]) ∧ Below wr.heap.size wr w') :=
            allOf_any _ _ _ _ _ HGr.out wr (HSgp.out wr HB.out) (strRow_of hRow2)
          have HF4 : Hid (finIs 4 sg is = if allErr sg.params is sr = 0 then (allVal sg.params is sr, 0) else badEx 8) := by show _ = _; rw [← HSr.out]; exact if_pos rfl
          have HBW := veil hbW
          clear HB HOwn HBox hrest hRow2 HIsz hl HSgp HGr hbW hbw
          generalize allVal sg.params is sr = av at *
          generalize allErr sg.params is sr = ae at *
          go_wp2_with fail
          refine HA.out.mono ?_
          rintro e w6 ⟨rfl, hb6⟩
          have HB6 := veil (HBW.out.trans (hb6.mono HBW.out.size))
          clear hb6 HA
          by_cases hz : ae = 0
          · subst hz
            have HRr : Hid (ans = (av, 0)) := by show _ = _; rw [HR.out, HFin.out, HF4.out, if_pos rfl]
            clear HFin HF4 HR
            go_wp2_with fail
            go_ret2
            exact ⟨by rw [HRr.out]; rfl, HB6.out⟩
          · have HRr : Hid (ans = badEx 8) := by show _ = _; rw [HR.out, HFin.out, HF4.out, if_neg hz]
            have hz' : (ae != 0) = true := by simp [hz]
            clear HFin HF4 hz HR
            go_wp2_with fail
            go_ret2
            exact ⟨by rw [HRr.out]; rfl, HB6.out⟩
    · have hce : ce = 7 := by rw [HCe.out, if_pos rfl, if_neg hln]
      have HR : Hid (ans = badEx 7) := by show _ = _; rw [HE.out, hce, if_neg (by decide)]
      have hne : ((sp : Int) != (xs.length : Int)) = true := by simp; omega
      clear hce HE HCe hln HSL HIH HXs hSz
      go_wp2_with (first | (rw [HW7.out]; clear HW7) | fail)
      go_ret2
      exact ⟨by rw [HR.out]; rfl, HBW7.out⟩
  · have hce : ce = 6 := by rw [HCe.out, if_neg hfe]
    have HR : Hid (ans = badEx 6) := by show _ = _; rw [HE.out, hce, if_neg (by decide)]
    have hfe' : (fe != 0) = true := by simp [hfe]
    clear hce HE HCe hfe HSL HIH HXs hSz
    go_wp2_with (first | (rw [HW7.out]; clear HW7) | fail)
    go_ret2
    exact ⟨by rw [HR.out]; rfl, HBW7.out⟩

end Go.Proofs.YtcpnfkeoajeodaaGreatDoor
