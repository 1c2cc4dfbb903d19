/- What the reader's typ answers, at every reader and every way back: the type that is next, handed to the way back; or what is wrong first. -/
import Derived.Test.YtpamadnckijfkabGreatDoorReader2
import Derived.Test.YtpamadnckijfkabGreatDoorFaults
namespace Go.Proofs.YtpamadnckijfkabGreatDoor
open Go.RowKit
set_option maxRecDepth 100000

/-- the blocks that are new since there were n. -/
def Fresh (n : Nat) (w : World) (b : Nat) : Prop := n ≤ b ∧ b < w.heap.size

/-- a call that answers a number of which R holds. -/
def Ends (R : Int → World → Prop) (e : Ending) (w : World) : Prop := ∃ x, e = .returned (.int .i64 x) ∧ R x w

theorem fresh_keeps {B n : Nat} {w w' : World} (hB : B < n) (h : Moved B w w') : Keeps (Fresh n w) (Fresh n w') w w' :=
  ⟨fun b hb => h.above b (Nat.lt_of_lt_of_le hB hb.1) hb.2, fun _ hb => ⟨hb.1, Nat.lt_of_lt_of_le hb.2 h.below.size⟩⟩

theorem none_sl {α : Type} {S : Nat → Prop} {P : α → Nat → Nat → Prop} {c : Nat} : SlAt S P c [] (.slice none 0 0) := ⟨none, 0, rfl, ⟨by simp, by simp⟩, Or.inl rfl⟩

theorem empty_le : emptyText.size ≤ maxLen := by show 0 ≤ maxLen; exact Nat.zero_le _
theorem noneOr_le {s : ByteArray} (h : noneOrIdent s = true) : s.size ≤ maxLen := by
  unfold maxLen
  unfold noneOrIdent at h
  cases hn : noneB s with
  | true =>
    have : s.data.toList = [] := by simpa [noneB] using hn
    have e : s.size = s.data.toList.length := rfl
    rw [this] at e
    have e' : s.size = 0 := e
    omega
  | false =>
    rw [hn] at h
    have hi : identOk s = true := by simpa using h
    have h1 : isIn s.size 1 8 = true := by
      cases e : isIn s.size 1 8 with
      | true => rfl
      | false => rw [identOk, wordOk, e] at hi; cases hi
    simp [isIn] at h1
    omega
theorem ident_le {s : ByteArray} (h : identOk s = true) : s.size ≤ maxLen := noneOr_le (by unfold noneOrIdent; rw [h]; simp)

/-- the way back of 'typ' within brackets. -/
theorem typ_back (B : Nat) (l : Toks) (j n : Nat) (t : Ty) (k : Int) (f na : ByteArray) (va : Value) (W : World) (g : Nat) (lb : Array Value) (br bk : Nat) (eg : ∀ args w, (callFunc g args).run Tryz.prog w = .ok (.enter g args) w) (R : Int → World → Prop)
    (hr : RdAt B l j W) (hBn : B < n) (hbr : W.cell? ⟨br, 0, none⟩ = some (.pointer (some ⟨B, 0, none⟩))) (hbk : W.cell? ⟨bk, 0, none⟩ = some (.func (.func g) #[] lb)) (hbrB : B < br) (hbkB : B < bk) (hnW : n ≤ W.heap.size) (ht : TyCs (Fresh n W) W t k f na va)
    (hbad : sgn l j [93] = false → ∀ w', Moved B W w' → R 4 w')
    (hok : sgn l j [93] = true → ∀ w' v, Moved B W w' → RdAt B l (j + 1) w' → TyIs (Fresh n w') w' (.mk 3 emptyText emptyText [t]) v → Calls Tryz.prog g (#[v] ++ lb) w' (Ends R)) :
    Calls Tryz.prog 106 #[.agg #[.int .i64 k, .string f, .string na, va], .pointer (some ⟨br, 0, none⟩), .pointer (some ⟨bk, 0, none⟩)] W (Ends R) := by
  obtain ⟨va1, va2, va3, rfl⟩ := ht.slice
  have hlt := rd_lt hr
  have hbrW := World.block_lt_of_cell? W _ hbr
  have hbkW := World.block_lt_of_cell? W _ hbk
  have HA : Hid (Moved B W (W.alloc (.cells #[.int .i64 k, .string f, .string na, .slice va1 va2 va3] 49))) := Moved.of_below ((Below.refl _ _).alloc (Nat.le_refl _) _) (by omega)
  have HR := veil (rd_below hr ((Below.refl _ _).alloc (Nat.le_refl _) (.cells #[.int .i64 k, .string f, .string na, .slice va1 va2 va3] 49)))
  have hne1 : br < W.heap.size := hbrW
  have HBad := veil hbad
  have HOk := veil hok
  have HT := veil ht
  clear hbad hok ht hr
  go_enter Tryz.func106, Tryz.ntmps106
  go_wp2_with fail
  refine (sign_next B l j ⟨#[93]⟩ _ HR.out).mono ?_
  rintro e w1 ⟨rfl, q1, q2⟩
  have hm1 := HA.out.trans q2
  have b0 : w1.cell? ⟨W.heap.size, 0, none⟩ = some (.int .i64 k) := (q2.cell (by omega) (by simp) 0).trans (World.cell?_alloc_at _ _ _ _ rfl)
  have b1 : w1.cell? ⟨W.heap.size, 1, none⟩ = some (.string f) := (q2.cell (by omega) (by simp) 1).trans (World.cell?_alloc_at _ _ _ _ rfl)
  have b2 : w1.cell? ⟨W.heap.size, 2, none⟩ = some (.string na) := (q2.cell (by omega) (by simp) 2).trans (World.cell?_alloc_at _ _ _ _ rfl)
  have b3 : w1.cell? ⟨W.heap.size, 3, none⟩ = some (.slice va1 va2 va3) := (q2.cell (by omega) (by simp) 3).trans (World.cell?_alloc_at _ _ _ _ rfl)
  have hk1 : w1.cell? ⟨bk, 0, none⟩ = some (.func (.func g) #[] lb) := (hm1.cell hbkB hbkW 0).trans hbk
  have HM1 := veil hm1
  have hs1 := q2.below.size
  cases hs : sgn l j [93]
  · have hs' : sgn l j (ByteArray.mk #[93]).data.toList = false := hs
    have HB := veil (HBad.out hs w1 HM1.out)
    try rw [hs']
    clear q1 q2 hm1
    go_wp2_with fail
    go_ret
    exact ⟨_, rfl, HB.out⟩
  · have hs' : sgn l j (ByteArray.mk #[93]).data.toList = true := hs
    rw [hs'] at q1
    have q1' : RdAt B l (j + 1) w1 := q1
    have hW1 : W.heap.size + 1 ≤ w1.heap.size := by simpa using hs1
    have hal : Below w1.heap.size w1 (w1.alloc (.cells #[.int .i64 k, .string f, .string na, .slice va1 va2 va3] 49)) := (Below.refl _ _).alloc (Nat.le_refl _) _
    have hm2 : Moved B W (w1.alloc (.cells #[.int .i64 k, .string f, .string na, .slice va1 va2 va3] 49)) := hm1.trans (Moved.of_below hal (by omega))
    have hty : TyIs (Fresh n (w1.alloc (.cells #[.int .i64 k, .string f, .string na, .slice va1 va2 va3] 49))) (w1.alloc (.cells #[.int .i64 k, .string f, .string na, .slice va1 va2 va3] 49)) (.mk 3 emptyText emptyText [t]) (.agg #[.int .i64 3, .string ⟨#[]⟩, .string ⟨#[]⟩, .slice (some ⟨w1.heap.size, 0, none⟩) 1 1]) := by
      refine ⟨3, _, _, _, rfl, [t], rfl, empty_le, empty_le, some ⟨w1.heap.size, 0, none⟩, 1, rfl, ⟨by simp [maxLen], by simp⟩, Or.inr ⟨w1.heap.size, 0, rfl, ⟨by omega, by simp⟩, ?_, trivial⟩⟩
      exact tyAt_cells.2 ⟨k, f, na, _, World.cell?_alloc_at _ _ _ _ rfl, World.cell?_alloc_at _ _ _ _ rfl, World.cell?_alloc_at _ _ _ _ rfl, World.cell?_alloc_at _ _ _ _ rfl, HT.out.keep (fresh_keeps hBn hm2)⟩
    have cK := HOk.out hs _ _ hm2 (rd_below q1' hal) hty
    have HK := veil cK
    try rw [hs']
    clear q1 q2 hm1 hm2 hty cK q1' hal HOk HBad HT
    have hef := eg
    go_wp2_with fail
    refine HK.out.mono ?_
    rintro e w' ⟨y, rfl, hy⟩
    have HY := veil hy
    clear hy
    go_wp2_with fail
    go_ret
    exact ⟨_, rfl, HY.out⟩

/-- a type without parts. -/
theorem ty_leaf {S : Nat → Prop} {w : World} (k : Int) {o n : ByteArray} (ho : o.size ≤ maxLen) (hn : n.size ≤ maxLen) : TyIs S w (.mk k o n []) (.agg #[.int .i64 k, .string o, .string n, .slice none 0 0]) := ⟨k, o, n, _, rfl, [], rfl, ho, hn, none_sl⟩

set_option maxHeartbeats 4000000 in
theorem typ_next : ∀ (f d : Nat), d + f = 41 → ∀ (B : Nat) (l : Toks) (i : Nat) (w : World) (g : Nat) (lb : Array Value), (∀ args w, (callFunc g args).run Tryz.prog w = .ok (.enter g args) w) → ∀ (R : Int → World → Prop), RdAt B l i w →
    (∀ e, pTy l f i = .bad e → ∀ w', Moved B w w' → R e w') →
    (∀ t j, pTy l f i = .ok t j → ∀ w' v, Moved B w w' → RdAt B l j w' → TyIs (Fresh w.heap.size w') w' t v → Calls Tryz.prog g (#[v] ++ lb) w' (Ends R)) →
    Calls Tryz.prog 68 #[.pointer (some ⟨B, 0, none⟩), .int .i64 d, .func (.func g) #[] lb] w (Ends R) := by
  intro f
  induction f with
  | zero =>
    intro d hd B l i w g lb eg R hr hbad hok
    have hd' : (40 : Int) < (d : Int) := by omega
    have hlt := rd_lt hr
    have HB := veil (hbad 1 (by rw [pTy]) ((w.alloc (.cells #[.pointer (some ⟨B, 0, none⟩)] 76)).alloc (.cells #[.func (.func g) #[] lb] 125)) ((Moved.of_below ((Below.refl _ _).alloc (Nat.le_refl _) _) (by omega)).alloc (by simp; omega) _))
    clear hbad hok eg hr
    go_enter Tryz.func68, Tryz.ntmps68
    go_wp2_with fail
    go_ret
    exact ⟨_, rfl, HB.out⟩
  | succ f ih =>
    intro d hd B l i w g lb eg R hr hbad hok
    have HIH := veil ih
    have HEg := veil eg
    have hd' : ¬ (40 : Int) < (d : Int) := by omega
    have hlt := rd_lt hr
    have hal : Below w.heap.size w ((w.alloc (.cells #[.pointer (some ⟨B, 0, none⟩)] 76)).alloc (.cells #[.func (.func g) #[] lb] 125)) := ((Below.refl _ _).alloc (Nat.le_refl _) _).alloc (by simp) _
    have HM0 : Hid (Moved B w ((w.alloc (.cells #[.pointer (some ⟨B, 0, none⟩)] 76)).alloc (.cells #[.func (.func g) #[] lb] 125))) := Moved.of_below hal (by omega)
    have HR0 := veil (rd_below hr hal)
    have hcr : ((w.alloc (.cells #[.pointer (some ⟨B, 0, none⟩)] 76)).alloc (.cells #[.func (.func g) #[] lb] 125)).cell? ⟨w.heap.size, 0, none⟩ = some (.pointer (some ⟨B, 0, none⟩)) := (World.cell?_alloc_old _ _ _ (by simp)).trans (World.cell?_alloc_at _ _ _ _ rfl)
    have hck : ((w.alloc (.cells #[.pointer (some ⟨B, 0, none⟩)] 76)).alloc (.cells #[.func (.func g) #[] lb] 125)).cell? ⟨w.heap.size + 1, 0, none⟩ = some (.func (.func g) #[] lb) := World.cell?_alloc_at _ _ _ _ (by simp)
    have HCr := veil hcr
    have HCk := veil hck
    have HP : Hid (pTy l (f + 1) i = if wrd l i [105, 110, 116] = true then .ok (.mk 1 emptyText emptyText []) (i + 1)
      else if wrd l i [116, 101, 120, 116] = true then .ok (.mk 2 emptyText emptyText []) (i + 1)
      else if sgn l i [91] = true then (match pTy l f (i + 1) with
        | .bad e => .bad e
        | .ok t j => if sgn l j [93] = true then .ok (.mk 3 emptyText emptyText [t]) (j + 1) else .bad 4)
      else match nameAt l i with
        | .bad e => .bad e
        | .ok x j => .ok (.mk 4 x.1 x.2 []) j) := by show _ = _; rw [pTy]; rfl
    have HBad := veil hbad
    have HOk := veil hok
    have hef := makeFunc_run
    clear hbad hok hr ih hal hcr hck eg
    have hkeep : ∀ W, Moved B w W → (Moved B ((w.alloc (.cells #[.pointer (some ⟨B, 0, none⟩)] 76)).alloc (.cells #[.func (.func g) #[] lb] 125)) W) → W.cell? ⟨w.heap.size, 0, none⟩ = some (.pointer (some ⟨B, 0, none⟩)) ∧ W.cell? ⟨w.heap.size + 1, 0, none⟩ = some (.func (.func g) #[] lb) := fun W _ h2 =>
      ⟨(h2.cell (by omega) (by simp; omega) 0).trans HCr.out, (h2.cell (by omega) (by simp) 0).trans HCk.out⟩
    have HKeep := veil hkeep
    clear hkeep
    go_enter Tryz.func68, Tryz.ntmps68
    go_wp2_with fail
    refine (word_next B l i ⟨#[105, 110, 116]⟩ _ HR0.out).mono ?_
    rintro e w1 ⟨rfl, q1, q2⟩
    have HN1 := veil q2
    have HM1 := veil (HM0.out.trans q2)
    obtain ⟨k1, k2⟩ := HKeep.out w1 HM1.out HN1.out
    have hsz1 : w.heap.size + 2 ≤ w1.heap.size := by have := q2.below.size; simpa using this
    cases hw1 : wrd l i [105, 110, 116]
    case true =>
      have hw1' : wrd l i (ByteArray.mk #[105, 110, 116]).data.toList = true := hw1
      rw [hw1'] at q1
      rw [if_pos hw1] at HP
      have HK := veil (HOk.out _ _ HP.out w1 _ HM1.out q1 (ty_leaf 1 empty_le empty_le))
      have eg := HEg.out
      try rw [hw1']
      clear q1 q2 HBad HOk
      go_wp2_with fail
      refine HK.out.mono ?_
      rintro e w' ⟨y, rfl, hy⟩
      have HY := veil hy
      clear hy
      go_wp2_with fail
      go_ret
      exact ⟨_, rfl, HY.out⟩
    have hw1' : wrd l i (ByteArray.mk #[105, 110, 116]).data.toList = false := hw1
    rw [hw1'] at q1
    rw [if_neg (by rw [hw1]; simp)] at HP
    have HR1 : Hid (RdAt B l i w1) := q1
    try rw [hw1']
    clear q1 q2
    go_wp2_with fail
    refine (word_next B l i ⟨#[116, 101, 120, 116]⟩ _ HR1.out).mono ?_
    rintro e w2 ⟨rfl, q1, q2⟩
    have HN2 := veil (HN1.out.trans q2)
    have HM2 := veil (HM1.out.trans q2)
    obtain ⟨k3, k4⟩ := HKeep.out w2 HM2.out HN2.out
    have hsz2 : w.heap.size + 2 ≤ w2.heap.size := by have := q2.below.size; omega
    cases hw2 : wrd l i [116, 101, 120, 116]
    case true =>
      have hw2' : wrd l i (ByteArray.mk #[116, 101, 120, 116]).data.toList = true := hw2
      rw [hw2'] at q1
      rw [if_pos hw2] at HP
      have HK := veil (HOk.out _ _ HP.out w2 _ HM2.out q1 (ty_leaf 2 empty_le empty_le))
      have eg := HEg.out
      try rw [hw2']
      clear q1 q2 HBad HOk
      go_wp2_with fail
      refine HK.out.mono ?_
      rintro e w' ⟨y, rfl, hy⟩
      have HY := veil hy
      clear hy
      go_wp2_with fail
      go_ret
      exact ⟨_, rfl, HY.out⟩
    have hw2' : wrd l i (ByteArray.mk #[116, 101, 120, 116]).data.toList = false := hw2
    rw [hw2'] at q1
    rw [if_neg (by rw [hw2]; simp)] at HP
    have HR2 : Hid (RdAt B l i w2) := q1
    try rw [hw2']
    clear q1 q2 k1 k2
    go_wp2_with fail
    refine (sign_next B l i ⟨#[91]⟩ _ HR2.out).mono ?_
    rintro e w3 ⟨rfl, q1, q2⟩
    have HN3 := veil (HN2.out.trans q2)
    have HM3 := veil (HM2.out.trans q2)
    obtain ⟨k5, k6⟩ := HKeep.out w3 HM3.out HN3.out
    have hsz3 : w.heap.size + 2 ≤ w3.heap.size := by have := q2.below.size; omega
    cases hw3 : sgn l i [91]
    case true =>
      have hw3' : sgn l i (ByteArray.mk #[91]).data.toList = true := hw3
      rw [hw3'] at q1
      rw [if_pos hw3] at HP
      have HR3 : Hid (RdAt B l (i + 1) w3) := q1
      have en : ((d + 1 : Nat) : Int) = (d : Int) + 1 := by omega
      have cI := HIH.out (d + 1) (by omega) B l (i + 1) w3 106 #[.pointer (some ⟨w.heap.size, 0, none⟩), .pointer (some ⟨w.heap.size + 1, 0, none⟩)] (enters_of Tryz.func106 (by kernel_rfl) rfl) R HR3.out
        (fun e he w' hm => HBad.out e (by rw [HP.out, he]) w' (HM3.out.trans hm))
        (fun t j hp w' v hm hr' ht => by
          obtain ⟨k', f', n', va', rfl, hcs⟩ := ht
          obtain ⟨kk5, kk6⟩ := HKeep.out w' (HM3.out.trans hm) (HN3.out.trans hm)
          have hsz' := hm.below.size
          refine typ_back B l j w.heap.size t k' f' n' va' w' g lb w.heap.size (w.heap.size + 1) HEg.out R hr' (by omega) kk5 kk6 (by omega) (by omega) (by omega) ?_ ?_ ?_
          · exact hcs.keep ⟨fun _ _ => rfl, fun b hb => ⟨by have := hb.1; omega, hb.2⟩⟩
          · intro hs w'' hm'
            exact HBad.out 4 (by rw [HP.out, hp]; simp [hs]) w'' ((HM3.out.trans hm).trans hm')
          · intro hs w'' v hm' hr'' ht''
            exact HOk.out _ _ (by rw [HP.out, hp]; simp [hs]) w'' v ((HM3.out.trans hm).trans hm') hr'' ht'')
      rw [en] at cI
      have HCI := veil cI
      try rw [hw3']
      clear q1 q2 HBad HOk cI
      go_wp2_with fail
      refine HCI.out.mono ?_
      rintro e w' ⟨y, rfl, hy⟩
      have HY := veil hy
      clear hy
      go_wp2_with fail
      go_ret
      exact ⟨_, rfl, HY.out⟩
    have hw3' : sgn l i (ByteArray.mk #[91]).data.toList = false := hw3
    rw [hw3'] at q1
    rw [if_neg (by rw [hw3]; simp)] at HP
    have HR3 : Hid (RdAt B l i w3) := q1
    try rw [hw3']
    clear q1 q2 k3 k4
    go_wp2_with fail
    refine (name_next B l i _ HR3.out).mono ?_
    rintro e w4 ⟨hm, ⟨hn, o, t, rfl⟩ | ⟨o, t, j, hn, ho, ht, rfl, hr⟩⟩
    · rw [hn] at HP
      have HB := veil (HBad.out _ HP.out w4 (HM3.out.trans hm))
      clear hm hn HBad HOk
      go_wp2_with fail
      go_ret
      exact ⟨_, rfl, HB.out⟩
    · rw [hn] at HP
      obtain ⟨k7, k8⟩ := HKeep.out w4 (HM3.out.trans hm) (HN3.out.trans hm)
      have HK := veil (HOk.out _ _ HP.out w4 _ (HM3.out.trans hm) hr (ty_leaf 4 (noneOr_le ho) (ident_le ht)))
      have eg := HEg.out
      clear hm hn HBad HOk hr
      go_wp2_with fail
      refine HK.out.mono ?_
      rintro e w' ⟨y, rfl, hy⟩
      have HY := veil hy
      clear hy
      go_wp2_with fail
      go_ret
      exact ⟨_, rfl, HY.out⟩

end Go.Proofs.YtpamadnckijfkabGreatDoor
