/- What the reader's something answers, at every reader and every way back, where expr, args and paramOrCall read as they should: what may have places behind it, handed to the way back; or what is wrong first. -/
import Derived.Test.YtpamadnckijfkabGreatDoorReadCall
import Derived.Test.YtpamadnckijfkabGreatDoorShelf
import Derived.Lib.UnsafeStr
namespace Go.Proofs.YtpamadnckijfkabGreatDoor
open Go.RowKit
set_option maxRecDepth 100000

theorem decFrom_num : ∀ (l : List UInt8) (acc : Nat), (∀ b ∈ l, 48 ≤ b.toNat ∧ b.toNat ≤ 57) → ∃ m : Nat, Lib.decFrom acc l = some m ∧ (m : Int) = l.foldl (fun n c => 10 * n + ((c.toNat : Int) - 48)) (acc : Int)
  | [], acc, _ => ⟨acc, rfl, rfl⟩
  | b :: r, acc, h => by
    have hb := h b (by simp)
    obtain ⟨m, h1, h2⟩ := decFrom_num r (acc * 10 + (b.toNat - 48)) (fun c hc => h c (by simp [hc]))
    refine ⟨m, ?_, ?_⟩
    · rw [Lib.decFrom, Lib.digitVal, if_pos hb]
      exact h1
    · rw [h2, List.foldl_cons]
      congr 1
      omega

theorem num_bytes {t : ByteArray} (h : numOk t = true) : (∀ b ∈ t.data.toList, 48 ≤ b.toNat ∧ b.toNat ≤ 57) ∧ 1 ≤ t.size ∧ t.size ≤ 6 := by
  unfold numOk at h
  simp only [Bool.and_eq_true] at h
  have hs : 1 ≤ t.size ∧ t.size ≤ 6 := by
    have := h.2.1
    simp [isIn] at this
    omega
  refine ⟨fun b hb => ?_, hs⟩
  obtain ⟨j, hj, rfl⟩ := List.mem_iff_getElem.1 hb
  have hd := (allB_iff _ _).1 h.1 j hj
  have hd' := digit_bd hd
  unfold byteAt at hd'
  rw [List.getD_eq_getElem?_getD, List.getElem?_eq_getElem hj, Option.getD_some] at hd'
  omega

theorem atoi_num {t : ByteArray} (h : numOk t = true) : Lib.atoi t.data.toList = some (numVal t.data.toList) := by
  obtain ⟨hb, h1, _⟩ := num_bytes h
  have hl : t.data.toList.length = t.size := rfl
  cases e : t.data.toList with
  | nil => rw [e] at hl; simp at hl; omega
  | cons b r =>
    rw [e] at hb
    have hb0 := hb b (by simp)
    obtain ⟨m, q1, q2⟩ := decFrom_num (b :: r) 0 hb
    have n1 : (b == 45) = false := by
      rw [beq_eq_false_iff_ne]; rintro rfl; simp at hb0
    have n2 : (b == 43) = false := by
      rw [beq_eq_false_iff_ne]; rintro rfl; simp at hb0
    rw [Lib.atoi, n1, n2]
    simp only [Bool.false_eq_true, if_false, Lib.decNat, List.isEmpty_cons, q1, Option.map_some, numVal]
    rw [q2]
    rfl

theorem below_bytes (w : World) (e : TypeId) (t : ByteArray) : Below w.heap.size w (Lib.bytesWorld w e t) :=
  Lib.below_freeze ((Below.refl w.heap.size w).drew.alloc (Nat.le_refl _) _) (p := ⟨w.heap.size, _, none⟩) (Nat.le_refl _) _

set_option maxHeartbeats 1000000 in
theorem paren_back (B : Nat) (l : Toks) (j n : Nat) (x : Ex) (k nu : Int) (f s : ByteArray) (va : Value) (W : World) (g : Nat) (lb : Array Value) (br bk : Nat) (eg : ∀ args w, (callFunc g args).run Tryz.prog w = .ok (.enter g args) w) (R : Int → World → Prop)
    (hr : RdAt B l j W) (hBn : B < n) (hbr : W.cell? ⟨br, 0, none⟩ = some (.pointer (some ⟨B, 0, none⟩))) (hbk : W.cell? ⟨bk, 0, none⟩ = some (.func (.func g) #[] lb)) (hbkB : B < bk) (ht : ExCs (Fresh n W) W x k nu f s va)
    (hbad : sgn l j [41] = false → ∀ w', Moved B W w' → R 4 w')
    (hok : sgn l j [41] = true → ∀ w' v, Moved B W w' → RdAt B l (j + 1) w' → ExIs (Fresh n w') w' x v → Calls Tryz.prog g (#[v] ++ lb) w' (Ends R)) :
    Calls Tryz.prog 142 #[.agg #[.int .i64 k, .int .i64 nu, .string f, .string s, va], .pointer (some ⟨br, 0, none⟩), .pointer (some ⟨bk, 0, none⟩)] W (Ends R) := by
  obtain ⟨va1, va2, va3, rfl⟩ := ht.slice
  have hlt := rd_lt hr
  have hbrW := World.block_lt_of_cell? W _ hbr
  have hbkW := World.block_lt_of_cell? W _ hbk
  have hne1 : br < W.heap.size := hbrW
  have hal : Below W.heap.size W (W.alloc (.cells #[.int .i64 k, .int .i64 nu, .string f, .string s, .slice va1 va2 va3] 52)) := (Below.refl _ _).alloc (Nat.le_refl _) _
  have HA : Hid (Moved B W (W.alloc (.cells #[.int .i64 k, .int .i64 nu, .string f, .string s, .slice va1 va2 va3] 52))) := Moved.of_below hal (by omega)
  have HR := veil (rd_below hr hal)
  have HBad := veil hbad
  have HOk := veil hok
  have HT := veil ht
  clear hbad hok ht hr hal
  go_enter Tryz.func142, Tryz.ntmps142
  go_wp2_with fail
  refine (sign_next B l j ⟨#[41]⟩ _ HR.out).mono ?_
  rintro e w1 ⟨rfl, q1, q2⟩
  have hm1 := HA.out.trans q2
  have b0 : w1.cell? ⟨W.heap.size, 0, none⟩ = some (.int .i64 k) := (q2.cell (by omega) (by simp) 0).trans (World.cell?_alloc_at _ _ _ _ rfl)
  have b1 : w1.cell? ⟨W.heap.size, 1, none⟩ = some (.int .i64 nu) := (q2.cell (by omega) (by simp) 1).trans (World.cell?_alloc_at _ _ _ _ rfl)
  have b2 : w1.cell? ⟨W.heap.size, 2, none⟩ = some (.string f) := (q2.cell (by omega) (by simp) 2).trans (World.cell?_alloc_at _ _ _ _ rfl)
  have b3 : w1.cell? ⟨W.heap.size, 3, none⟩ = some (.string s) := (q2.cell (by omega) (by simp) 3).trans (World.cell?_alloc_at _ _ _ _ rfl)
  have b4 : w1.cell? ⟨W.heap.size, 4, none⟩ = some (.slice va1 va2 va3) := (q2.cell (by omega) (by simp) 4).trans (World.cell?_alloc_at _ _ _ _ rfl)
  have hk1 : w1.cell? ⟨bk, 0, none⟩ = some (.func (.func g) #[] lb) := (hm1.cell hbkB hbkW 0).trans hbk
  cases hs : sgn l j [41]
  · have hs' : sgn l j (ByteArray.mk #[41]).data.toList = false := hs
    have HB := veil (HBad.out hs w1 hm1)
    try rw [hs']
    clear q1 q2 hm1 HOk HBad
    go_wp2_with fail
    go_ret
    exact ⟨_, rfl, HB.out⟩
  · have hs' : sgn l j (ByteArray.mk #[41]).data.toList = true := hs
    rw [hs'] at q1
    have HK := veil (HOk.out hs w1 _ hm1 q1 ⟨_, _, _, _, _, rfl, HT.out.keep (fresh_keeps hBn hm1)⟩)
    try rw [hs']
    clear q1 q2 hm1 HOk HBad HT
    go_wp2_with fail
    refine HK.out.mono ?_
    rintro e w' ⟨y, rfl, hy⟩
    have HY := veil hy
    clear hy
    go_wp2_with fail
    go_ret
    exact ⟨_, rfl, HY.out⟩

theorem items_back (g : Nat) (lb : Array Value) (eg : ∀ args w, (callFunc g args).run Tryz.prog w = .ok (.enter g args) w) (R : Int → World → Prop) (bk : Nat) (va1 : Option Addr) (va2 va3 : Nat) (W : World)
    (hk : W.cell? ⟨bk, 0, none⟩ = some (.func (.func g) #[] lb)) (h : Calls Tryz.prog g (#[.agg #[.int .i64 6, .int .i64 0, .string ⟨#[]⟩, .string ⟨#[]⟩, .slice va1 va2 va3]] ++ lb) W (Ends R)) :
    Calls Tryz.prog 144 #[.slice va1 va2 va3, .pointer (some ⟨bk, 0, none⟩)] W (Ends R) := by
  have HK := veil h
  clear h
  go_enter Tryz.func144, Tryz.ntmps144
  go_wp2_with fail
  refine HK.out.mono ?_
  rintro e w' ⟨y, rfl, hy⟩
  have HY := veil hy
  clear hy
  go_wp2_with fail
  go_ret
  exact ⟨_, rfl, HY.out⟩

set_option maxHeartbeats 8000000 in
theorem head_next (f d : Nat) (hd1 : d < 100) (hE : ExprReads f (d + 1)) (hA : ArgsReads f d) (hC : CallReads f d) : HeadReads f d := by
  intro B l i w g lb eg R hr hbad hok
  have hlt := rd_lt hr
  have hal : Below w.heap.size w ((w.alloc (.cells #[.pointer (some ⟨B, 0, none⟩)] 76)).alloc (.cells #[.func (.func g) #[] lb] 128)) := ((Below.refl _ _).alloc (Nat.le_refl _) _).alloc (by simp) _
  have HM0 : Hid (Moved B w ((w.alloc (.cells #[.pointer (some ⟨B, 0, none⟩)] 76)).alloc (.cells #[.func (.func g) #[] lb] 128))) := Moved.of_below hal (by omega)
  have HR0 := veil (rd_below hr hal)
  have HNum : Hid (∀ j t, takeAt l j 2 = some t → numOk t = true) := fun j t ht => rd_num hr ht
  have hcr : ((w.alloc (.cells #[.pointer (some ⟨B, 0, none⟩)] 76)).alloc (.cells #[.func (.func g) #[] lb] 128)).cell? ⟨w.heap.size, 0, none⟩ = some (.pointer (some ⟨B, 0, none⟩)) := (World.cell?_alloc_old _ _ _ (by simp)).trans (World.cell?_alloc_at _ _ _ _ rfl)
  have hck : ((w.alloc (.cells #[.pointer (some ⟨B, 0, none⟩)] 76)).alloc (.cells #[.func (.func g) #[] lb] 128)).cell? ⟨w.heap.size + 1, 0, none⟩ = some (.func (.func g) #[] lb) := World.cell?_alloc_at _ _ _ _ (by simp)
  have HKeep := veil (show ∀ W, Moved B ((w.alloc (.cells #[.pointer (some ⟨B, 0, none⟩)] 76)).alloc (.cells #[.func (.func g) #[] lb] 128)) W → W.cell? ⟨w.heap.size, 0, none⟩ = some (.pointer (some ⟨B, 0, none⟩)) ∧ W.cell? ⟨w.heap.size + 1, 0, none⟩ = some (.func (.func g) #[] lb) from fun W h2 =>
    ⟨(h2.cell (by omega) (by simp; omega) 0).trans hcr, (h2.cell (by omega) (by simp) 0).trans hck⟩)
  have HBad := veil hbad
  have HOk := veil hok
  have HEg := veil eg
  have HE := veil hE
  have HA := veil hA
  have HC := veil hC
  have hef := makeFunc_run
  have HP : Hid (pHead (pEx l f) l i = if sgn l i [40] = true then (match pEx l f (i + 1) with
      | .bad e => .bad e
      | .ok x j => if sgn l j [41] = true then .ok x (j + 1) else .bad 4)
    else if sgn l i [91] = true then (match pList (pEx l f) l [93] (l.length + 1) [] (i + 1) with
      | .bad e => .bad e
      | .ok xs j => .ok (exItems xs) j)
    else match takeAt l i 2 with
      | some t => .ok (exNum t) (i + 1)
      | none => match takeAt l i 3 with
        | some t => .ok (exQuote t) (i + 1)
        | none => pCall (pEx l f) l i) := by show _ = _; unfold pHead; rfl
  clear hbad hok hr hal eg hE hA hC hcr hck
  go_enter Tryz.func136, Tryz.ntmps136
  go_wp2_with fail
  refine (sign_next B l i ⟨#[40]⟩ _ HR0.out).mono ?_
  rintro e w1 ⟨rfl, q1, q2⟩
  have HN1 := veil q2
  have HM1 := veil (HM0.out.trans q2)
  have hsz1 : w.heap.size + 2 ≤ w1.heap.size := by have := q2.below.size; simpa using this
  obtain ⟨k1, k2⟩ := HKeep.out w1 q2
  cases hs1 : sgn l i [40]
  case true =>
    have hs' : sgn l i (ByteArray.mk #[40]).data.toList = true := hs1
    rw [hs'] at q1
    rw [if_pos hs1] at HP
    have en : ((d + 1 : Nat) : Int) = (d : Int) + 1 := by omega
    have cI := HE.out B l (i + 1) w1 142 #[.pointer (some ⟨w.heap.size, 0, none⟩), .pointer (some ⟨w.heap.size + 1, 0, none⟩)] (enters_of Tryz.func142 (by kernel_rfl) rfl) R q1
      (fun e he w' hm => HBad.out e (by rw [HP.out, he]) w' (HM1.out.trans hm))
      (fun x j hx w' v hm hr' hv => by
        obtain ⟨u1, u2⟩ := HKeep.out w' (HN1.out.trans hm)
        obtain ⟨ke, ne, fe, se, ve, rfl, hce⟩ := ex_wider (n := w.heap.size) (by omega) hv
        exact paren_back B l j w.heap.size x ke ne fe se ve w' g lb _ _ HEg.out R hr' hlt u1 u2 (by omega) hce
          (fun h4 w'' hm' => HBad.out 4 (by rw [HP.out, hx]; simp [h4]) w'' ((HM1.out.trans hm).trans hm'))
          (fun h4 w'' v' hm' hr'' hv' => HOk.out x (j + 1) (by rw [HP.out, hx]; simp [h4]) w'' v' ((HM1.out.trans hm).trans hm') hr'' hv'))
    rw [en] at cI
    have HK := veil cI
    try rw [hs']
    clear q1 q2 cI HBad HOk
    go_wp2_with fail
    refine HK.out.mono ?_
    rintro e w' ⟨y, rfl, hy⟩
    have HY := veil hy
    clear hy
    go_wp2_with fail
    go_ret
    exact ⟨_, rfl, HY.out⟩
  have hs1' : sgn l i (ByteArray.mk #[40]).data.toList = false := hs1
  rw [hs1'] at q1
  rw [if_neg (by rw [hs1]; simp)] at HP
  have HR1 : Hid (RdAt B l i w1) := q1
  try rw [hs1']
  clear q1 q2
  go_wp2_with fail
  refine (sign_next B l i ⟨#[91]⟩ _ HR1.out).mono ?_
  rintro e w2 ⟨rfl, q1, q2⟩
  have HN2 := veil (HN1.out.trans q2)
  have HM2 := veil (HM1.out.trans q2)
  have hsz2 : w.heap.size + 2 ≤ w2.heap.size := by have := q2.below.size; omega
  obtain ⟨k3, k4⟩ := HKeep.out w2 HN2.out
  clear k1 k2
  cases hs2 : sgn l i [91]
  case true =>
    have hs' : sgn l i (ByteArray.mk #[91]).data.toList = true := hs2
    rw [hs'] at q1
    rw [if_pos hs2] at HP
    have HK := veil (HA.out B l (i + 1) ⟨#[93]⟩ w2 144 #[.pointer (some ⟨w.heap.size + 1, 0, none⟩)] (enters_of Tryz.func144 (by kernel_rfl) rfl) R q1
      (fun e he w' hm => HBad.out e (by rw [HP.out]; rw [show pList (pEx l f) l [93] (l.length + 1) [] (i + 1) = .bad e from he]) w' (HM2.out.trans hm))
      (fun xs j hx w' v hm hr' hv => by
        obtain ⟨va1, va2, va3, rfl⟩ := hv.slice
        obtain ⟨u1, u2⟩ := HKeep.out w' (HN2.out.trans hm)
        refine items_back g lb HEg.out R _ va1 va2 va3 w' u2 ?_
        exact HOk.out (exItems xs) j (by rw [HP.out]; rw [show pList (pEx l f) l [93] (l.length + 1) [] (i + 1) = .ok xs j from hx]) w' _ (HM2.out.trans hm) hr' ⟨_, _, _, _, _, rfl, xs, rfl, empty_le, empty_le, exSl_keep ⟨fun _ _ => rfl, fun _ hb => ⟨by have := hb.1; omega, hb.2⟩⟩ hv⟩))
    try rw [hs']
    clear q1 q2 HBad HOk
    go_wp2_with fail
    refine HK.out.mono ?_
    rintro e w' ⟨y, rfl, hy⟩
    have HY := veil hy
    clear hy
    go_wp2_with fail
    go_ret
    exact ⟨_, rfl, HY.out⟩
  have hs2' : sgn l i (ByteArray.mk #[91]).data.toList = false := hs2
  rw [hs2'] at q1
  rw [if_neg (by rw [hs2]; simp)] at HP
  have HR2 : Hid (RdAt B l i w2) := q1
  try rw [hs2']
  clear q1 q2
  go_wp2_with fail
  refine (take_any B l i 2 _ HR2.out).mono ?_
  rintro e w3 ⟨hm, ⟨ht, rfl, hr⟩ | ⟨t, ht, hsz, rfl, hr⟩⟩
  rotate_left
  · rw [ht] at HP
    have hnum := HNum.out i t ht
    obtain ⟨_, hn1, hn6⟩ := num_bytes hnum
    have HAt := veil (atoi_num hnum)
    have HN3 := veil (HN2.out.trans hm)
    have HM3 := veil (HM2.out.trans hm)
    have HR3 := veil hr
    have hlt3 := rd_lt hr
    clear hm hr ht hnum
    go_wp2_with fail
    refine (Tryz.strconv_Atoi t (numVal t.data.toList) (by omega) HAt.out _).mono ?_
    rintro e w4 ⟨rfl, t', rfl⟩
    have hb4 := below_bytes w3 5 t'
    have hm4 : Moved B w3 (Lib.bytesWorld w3 5 t') := Moved.of_below hb4 (by omega)
    obtain ⟨u1, u2⟩ := HKeep.out _ (HN3.out.trans hm4)
    have HK := veil (HOk.out _ _ HP.out (Lib.bytesWorld w3 5 t') (.agg #[.int .i64 1, .int .i64 (numVal t.data.toList), .string ⟨#[]⟩, .string ⟨#[]⟩, .slice none 0 0]) (HM3.out.trans hm4) (rd_below HR3.out hb4) ⟨_, _, _, _, _, rfl, [], rfl, empty_le, empty_le, none_sl⟩)
    have eg := HEg.out
    clear hm4 hb4 HBad HOk
    generalize Lib.bytesWorld w3 5 t' = w4 at *
    go_wp2_with fail
    refine HK.out.mono ?_
    rintro e w' ⟨y, rfl, hy⟩
    have HY := veil hy
    clear hy
    go_wp2_with fail
    go_ret
    exact ⟨_, rfl, HY.out⟩
  rw [ht] at HP
  have HN3 := veil (HN2.out.trans hm)
  have HM3 := veil (HM2.out.trans hm)
  have HR3 := veil hr
  obtain ⟨k5, k6⟩ := HKeep.out w3 HN3.out
  clear hm hr ht k3 k4
  go_wp2_with fail
  refine (take_any B l i 3 _ HR3.out).mono ?_
  rintro e w4 ⟨hm, ⟨ht, rfl, hr⟩ | ⟨t, ht, hsz, rfl, hr⟩⟩
  rotate_left
  · rw [ht] at HP
    have HM4 := veil (HM3.out.trans hm)
    obtain ⟨u1, u2⟩ := HKeep.out w4 (HN3.out.trans hm)
    have HK := veil (HOk.out _ _ HP.out w4 (.agg #[.int .i64 2, .int .i64 0, .string ⟨#[]⟩, .string t, .slice none 0 0]) HM4.out hr ⟨_, _, _, _, _, rfl, [], rfl, empty_le, hsz, none_sl⟩)
    have eg := HEg.out
    clear hm hr ht HBad HOk
    go_wp2_with fail
    refine HK.out.mono ?_
    rintro e w' ⟨y, rfl, hy⟩
    have HY := veil hy
    clear hy
    go_wp2_with fail
    go_ret
    exact ⟨_, rfl, HY.out⟩
  rw [ht] at HP
  have HM4 := veil (HM3.out.trans hm)
  obtain ⟨u1, u2⟩ := HKeep.out w4 (HN3.out.trans hm)
  have hsz4 : w.heap.size ≤ w4.heap.size := HM4.out.below.size
  have HK := veil (HC.out B l i w4 g lb HEg.out R hr (fun e he w' hm' => HBad.out e (HP.out.trans he) w' (HM4.out.trans hm')) (fun x j hx w' v hm' hr' hv => HOk.out x j (HP.out.trans hx) w' v (HM4.out.trans hm') hr' (ex_wider hsz4 hv)))
  clear hm hr ht HBad HOk k5 k6
  go_wp2_with fail
  refine HK.out.mono ?_
  rintro e w' ⟨y, rfl, hy⟩
  have HY := veil hy
  clear hy
  go_wp2_with fail
  go_ret
  exact ⟨_, rfl, HY.out⟩

end Go.Proofs.YtpamadnckijfkabGreatDoor
