import Derived.Test.YtagbaimfigljiaaGreatDoorJCk8
import Derived.Test.YtagbaimfigljiaaGreatDoorJCk0
import Derived.Test.YtagbaimfigljiaaGreatDoorJCk1
import Derived.Test.YtagbaimfigljiaaGreatDoorJCk7
import Derived.Lib.Bytealg
import Derived.Lib.IndexAny
import Derived.WalkSpells
namespace Go.Proofs.YtagbaimfigljiaaGreatDoor
open Go.RowKit
set_option maxRecDepth 100000

def FunReads : Prop := ∀ (B : Nat) (l : Toks) (i : Nat) (w : World) (g : Nat) (lb : Array Value), (∀ args w, (callFunc g args).run Tryz.prog w = .ok (.enter g args) w) → ∀ (R : Int → World → Prop), RdAt B l i w →
    (∀ e, pFun l i = .bad e → ∀ w', Moved B w w' → R e w') →
    (∀ x j, pFun l i = .ok x j → ∀ w' v, Moved B w w' → RdAt B l j w' → FuIs (Fresh w.heap.size w') w' x v → Calls Tryz.prog g (#[v] ++ lb) w' (Ends R)) →
    Calls Tryz.prog 125 #[.pointer (some ⟨B, 0, none⟩), .func (.func g) #[] lb] w (Ends R)

set_option maxHeartbeats 4000000 in
theorem fun_next : FunReads := by
  intro B l i w g lb eg R hr hbad hok
  have hlt := rd_lt hr
  have hal : Below w.heap.size w ((w.alloc (.cells #[.pointer (some ⟨B, 0, none⟩)] 179)).alloc (.cells #[.func (.func g) #[] lb] 158)) := ((Below.refl _ _).alloc (Nat.le_refl _) _).alloc (by simp) _
  have hm0 : Moved B w ((w.alloc (.cells #[.pointer (some ⟨B, 0, none⟩)] 179)).alloc (.cells #[.func (.func g) #[] lb] 158)) := Moved.of_below hal (by omega)
  have hw0 : ∃ wa, ((w.alloc (.cells #[.pointer (some ⟨B, 0, none⟩)] 179)).alloc (.cells #[.func (.func g) #[] lb] 158)) = wa ∧ wa.cell? ⟨w.heap.size, 0, none⟩ = some (.pointer (some ⟨B, 0, none⟩)) ∧ wa.cell? ⟨w.heap.size + 1, 0, none⟩ = some (.func (.func g) #[] lb) ∧ wa.heap.size = w.heap.size + 2 :=
    ⟨_, rfl, (World.cell?_alloc_old _ _ _ (by simp)).trans (World.cell?_alloc_at _ _ _ _ rfl), World.cell?_alloc_at _ _ _ _ (by simp), by simp⟩
  have hra := rd_below hr hal
  obtain ⟨wa, hwa, a0, a1, hsa⟩ := hw0
  rw [hwa] at hm0 hra
  have HM0 := veil hm0
  have HR0 := veil hra
  have HBad := veil hbad
  have HOk := veil hok
  have HEg := veil eg
  have hef := makeFunc_run
  have HXa := veil (show ∀ W, Moved B wa W → W.cell? ⟨w.heap.size, 0, none⟩ = some (.pointer (some ⟨B, 0, none⟩)) ∧ W.cell? ⟨w.heap.size + 1, 0, none⟩ = some (.func (.func g) #[] lb) from fun W h => ⟨(h.cell (by omega) (by omega) 0).trans a0, (h.cell (by omega) (by omega) 0).trans a1⟩)
  clear hbad hok hr hal eg hm0 hra
  go_enter Tryz.func125, Tryz.ntmps125
  go_wp2_with fail
  try rw [hwa]
  refine (ident_next B l i _ HR0.out).mono ?_
  rintro e w1 ⟨hm, ⟨hi, t, i', rfl, hr⟩ | ⟨t, hi, hok, rfl, hr⟩⟩
  · have hsz1 : w.heap.size + 2 ≤ w1.heap.size := by have := hm.below.size; omega
    have HB := veil (HBad.out 4 (by unfold pFun; rw [hi]) (w1.alloc (.cells #[.string t] 9)) ((HM0.out.trans hm).alloc (by omega) _))
    clear hm hi hr HBad HOk hwa a0 a1
    go_wp2_with fail
    go_ret
    exact ⟨_, rfl, HB.out⟩
  · have hsz1 : w.heap.size + 2 ≤ w1.heap.size := by have := hm.below.size; omega
    have HI := veil hi
    have HTs := veil (ident_le hok)
    obtain ⟨p0, p1⟩ := HXa.out w1 hm
    have hal2 : Below w1.heap.size w1 (w1.alloc (.cells #[.string t] 9)) := (Below.refl _ _).alloc (Nat.le_refl _) _
    have hw2 : ∃ w2, w1.alloc (.cells #[.string t] 9) = w2 ∧ w2.cell? ⟨w.heap.size, 0, none⟩ = some (.pointer (some ⟨B, 0, none⟩)) ∧ w2.cell? ⟨w.heap.size + 1, 0, none⟩ = some (.func (.func g) #[] lb) ∧ w2.cell? ⟨w1.heap.size, 0, none⟩ = some (.string t) ∧ w2.heap.size = w1.heap.size + 1 :=
      ⟨_, rfl, (World.cell?_alloc_old _ _ _ (by show w.heap.size ≠ _; omega)).trans p0, (World.cell?_alloc_old _ _ _ (by show w.heap.size + 1 ≠ _; omega)).trans p1, World.cell?_alloc_at _ _ _ _ rfl, by simp⟩
    have hm2 : Moved B w (w1.alloc (.cells #[.string t] 9)) := (HM0.out.trans hm).trans (Moved.of_below hal2 (by omega))
    have hr2 := rd_below hr hal2
    obtain ⟨w2, hwe, x0, x1, x2, hs2⟩ := hw2
    rw [hwe] at hm2 hr2
    have HM2 := veil hm2
    have HR2 := veil hr2
    have HX2 := veil (show ∀ W, Moved B w2 W → W.cell? ⟨w.heap.size, 0, none⟩ = some (.pointer (some ⟨B, 0, none⟩)) ∧ W.cell? ⟨w.heap.size + 1, 0, none⟩ = some (.func (.func g) #[] lb) ∧ W.cell? ⟨w1.heap.size, 0, none⟩ = some (.string t) from fun W h => ⟨(h.cell (by omega) (by omega) 0).trans x0, (h.cell (by omega) (by omega) 0).trans x1, (h.cell (by omega) (by omega) 0).trans x2⟩)
    clear hm hi hr hok hal2 hm2 hr2 p0 p1 a0 a1 hwa HXa HR0
    go_wp2_with fail
    try rw [hwe]
    refine (variable_next B l (i + 1) _ HR2.out).mono ?_
    rintro e w3 ⟨hm, ⟨hv, vt, rfl⟩ | ⟨vt, j, hv, hvs, rfl, hr⟩⟩
    · have hsz3 := hm.below.size
      have HB := veil (HBad.out 4 (by unfold pFun; simp only [HI.out, hv]) (w3.alloc (.cells #[.string vt] 9)) ((HM2.out.trans hm).alloc (by omega) _))
      clear hm hv HBad HOk hwe x0 x1 x2
      go_wp2_with fail
      go_ret
      exact ⟨_, rfl, HB.out⟩
    · have hsz3 := hm.below.size
      have HV := veil hv
      have HVs := veil hvs
      obtain ⟨p0, p1, p2⟩ := HX2.out w3 hm
      have hal4 : Below w3.heap.size w3 (w3.alloc (.cells #[.string vt] 9)) := (Below.refl _ _).alloc (Nat.le_refl _) _
      have hm4 : Moved B w (w3.alloc (.cells #[.string vt] 9)) := (HM2.out.trans hm).trans (Moved.of_below hal4 (by omega))
      have hr4 := rd_below hr hal4
      have hw4 : ∃ w4, w3.alloc (.cells #[.string vt] 9) = w4 ∧ FBox B w.heap.size (w.heap.size + 1) w1.heap.size w3.heap.size g lb t vt w4 ∧ w4.heap.size = w3.heap.size + 1 :=
        ⟨_, rfl, ⟨(World.cell?_alloc_old _ _ _ (by show w.heap.size ≠ _; omega)).trans p0, (World.cell?_alloc_old _ _ _ (by show w.heap.size + 1 ≠ _; omega)).trans p1, (World.cell?_alloc_old _ _ _ (by show w1.heap.size ≠ _; omega)).trans p2, World.cell?_alloc_at _ _ _ _ rfl, by omega, by omega, by omega, by omega⟩, by simp⟩
      obtain ⟨w4, hwf, hbx, hs4⟩ := hw4
      rw [hwf] at hm4 hr4
      have HM4 := veil hm4
      have HR4 := veil hr4
      have HBx := veil hbx
      have c0 := hbx.r
      clear hm hv hr hvs hal4 hm4 hr4 p0 p1 p2 x0 x1 x2 hwe HX2 HR2 hbx
      go_wp2_with fail
      try rw [hwf]
      refine (sign_next B l j ⟨#[40]⟩ _ HR4.out).mono ?_
      rintro e w5 ⟨rfl, q1, q2⟩
      have HN5 := veil q2
      have HM5 := veil (HM4.out.trans q2)
      have hsz5 := q2.below.size
      cases hs : sgn l j [40]
      · have hs' : sgn l j (ByteArray.mk #[40]).data.toList = false := hs
        have HB := veil (HBad.out 4 (by unfold pFun; simp only [HI.out, HV.out, hs]; rfl) w5 HM5.out)
        try rw [hs']
        clear q1 q2 hs hs' HBad HOk hwf c0
        go_wp2_with fail
        go_ret
        exact ⟨_, rfl, HB.out⟩
      · have hs' : sgn l j (ByteArray.mk #[40]).data.toList = true := hs
        rw [hs'] at q1
        have q1' : RdAt B l (j + 1) w5 := q1
        have cP := params_next B l (j + 1) w5 200 #[.pointer (some ⟨w.heap.size, 0, none⟩), .pointer (some ⟨w.heap.size + 1, 0, none⟩), .pointer (some ⟨w1.heap.size, 0, none⟩), .pointer (some ⟨w3.heap.size, 0, none⟩)] (enters_of Tryz.func200 (by kernel_rfl) rfl) R q1'
          (fun e he w' hm' => HBad.out e (by unfold pFun; simp only [HI.out, HV.out, hs, he]; rfl) w' (HM5.out.trans hm'))
          (fun ps j1 hp w' v hm' hr' hv => by
            obtain ⟨vp1, vp2, vp3, rfl⟩ := hv.slice
            have hsz' := hm'.below.size
            have hm6 := HM5.out.trans hm'
            exact fun_back1 B l j1 w.heap.size g lb HEg.out R _ _ _ _ t vt ps vp1 vp2 vp3 w' hr' hlt (by omega) (HBx.out.keep (HN5.out.trans hm')) HTs.out HVs.out
              (fdSl_keep ⟨fun _ _ => rfl, fun b hb => ⟨by have := hb.1; omega, hb.2⟩⟩ hv)
              (fun h1 w'' hm'' => HBad.out 4 (by unfold pFun; simp only [HI.out, HV.out, hs, hp, h1]; rfl) w'' (hm6.trans hm''))
              (fun h1 e he w'' hm'' => HBad.out e (by unfold pFun; simp only [HI.out, HV.out, hs, hp, h1, he]; rfl) w'' (hm6.trans hm''))
              (fun h1 ty j2 hty h2 w'' hm'' => HBad.out 4 (by unfold pFun; simp only [HI.out, HV.out, hs, hp, h1, hty, h2]; rfl) w'' (hm6.trans hm''))
              (fun h1 ty j2 hty h2 e he w'' hm'' => HBad.out e (by unfold pFun; simp only [HI.out, HV.out, hs, hp, h1, hty, h2, he]; rfl) w'' (hm6.trans hm''))
              (fun h1 ty j2 hty h2 x j' hx w'' v' hm'' hr'' hv' => HOk.out _ j' (by unfold pFun; simp only [HI.out, HV.out, hs, hp, h1, hty, h2, hx]; rfl) w'' v' (hm6.trans hm'') hr'' hv'))
        have HCP := veil cP
        have c5 := (HBx.out.keep HN5.out).r
        try rw [hs']
        clear q1 q1' q2 hs hs' HBad HOk hwf c0 cP
        go_wp2_with fail
        refine HCP.out.mono ?_
        rintro e w' ⟨y, rfl, hy⟩
        have HY := veil hy
        clear hy
        go_wp2_with fail
        go_ret
        exact ⟨_, rfl, HY.out⟩

end Go.Proofs.YtagbaimfigljiaaGreatDoor
namespace Go.Proofs.YtagbaimfigljiaaGreatDoor
open Go.RowKit
set_option maxRecDepth 100000

def allSigns : List UInt8 := [61, 40, 41, 91, 93, 44, 43, 46, 58, 60, 62]
def signOk (s : ByteArray) : Bool := match s.data.toList with
  | [b] => allSigns.contains b
  | _ => false

set_option maxHeartbeats 400000 in
theorem indexByte_lite (s : ByteArray) (c : Int) (w : World) :
    Calls Tryz.prog 256 #[.string s, .int .u8 c] w fun e w' => e = .returned (.int .i64 (Lib.indexByte s.data.toList c.toNat.toUInt8)) ∧ w = w' := by
  go_enter Tryz.func256, Tryz.ntmps256
  go_wp2
  rw [run_callFunc_extern Tryz.func309 (by kernel_rfl) (by kernel_rfl) (by kernel_rfl) (e := Extern.BytealgIndexByte.indexByte) (by kernel_rfl), Lib.run_indexByteString]
  simp only [Result.andThen]
  rw [Oper.upon_value]
  go_wp2
  go_ret
  exact ⟨rfl, rfl⟩

theorem indexByte_any (s : ByteArray) (c : Int) (w : World) :
    Calls Tryz.prog 179 #[.string s, .int .u8 c] w fun e w' => e = .returned (.int .i64 (Lib.indexByte s.data.toList c.toNat.toUInt8)) ∧ w = w' := by
  go_enter Tryz.func179, Tryz.ntmps179
  go_wp2_with (go_at_call 256; refine (indexByte_lite _ _ _).mono ?_; rintro e w' ⟨rfl, rfl⟩)
  go_ret
  exact ⟨rfl, rfl⟩

theorem sign_one (s : ByteArray) (h : s.size = 1) (hp : 0 < s.size) : signOk s = decide ((0 : Int) ≤ Lib.indexByte [61, 40, 41, 91, 93, 44, 43, 46, 58, 60, 62] (s[0]'hp)) := by
  obtain ⟨⟨l⟩⟩ := s
  have hl : l.length = 1 := h
  match l, hl with
  | [b], _ =>
    rw [← Lib.contains_iff_indexByte]
    rfl

theorem sign_many (s : ByteArray) (h : s.size ≠ 1) : signOk s = false := by
  obtain ⟨⟨l⟩⟩ := s
  have hl : l.length ≠ 1 := h
  match l, hl with
  | [], _ => rfl
  | [b], hl => exact absurd rfl hl
  | a :: b :: l, _ => rfl

set_option maxHeartbeats 400000 in
theorem sign_any (s : ByteArray) (w : World) : Calls Tryz.prog 267 #[.string s] w fun e w' => e = .returned (.bool (signOk s)) ∧ w = w' := by
  by_cases h : s.size = 1
  · have h' : (((s.size : Nat) : Int) == 1) = true := by simp [h]
    have hpos : 0 < s.size := by omega
    have HF := veil (sign_one s h hpos)
    clear h
    go_enter Tryz.func267, Tryz.ntmps267
    go_wp2_with (go_at_call 179; refine (indexByte_any _ _ _).mono ?_; rintro e w' ⟨rfl, rfl⟩)
    go_ret
    exact ⟨by rw [HF.out]; rfl, rfl⟩
  · have h' : (((s.size : Nat) : Int) == 1) = false := by rw [beq_eq_false_iff_ne]; omega
    have HF := veil (sign_many s h)
    clear h
    go_enter Tryz.func267, Tryz.ntmps267
    go_wp2
    go_ret
    exact ⟨by rw [HF.out]; rfl, rfl⟩

end Go.Proofs.YtagbaimfigljiaaGreatDoor
namespace Go.Proofs.YtagbaimfigljiaaGreatDoor
open Go.RowKit
set_option maxRecDepth 100000

def tokOk (k : Int) (t : ByteArray) : Bool := if k = 1 then wordOk t else if k = 2 then numOk t else if k = 3 then quoteOk t else signOk t
def tokFault (k : Int) (t : ByteArray) : Int := if 1 ≤ k ∧ k ≤ 4 then (if tokOk k t = true then 0 else 4) else 3

set_option maxHeartbeats 1000000 in
theorem checkOne_any (k : Int) (t : ByteArray) (ht : t.size ≤ maxLen) (w : World) :
    Calls Tryz.prog 192 #[.agg #[.int .i64 k, .string t]] w fun e w' => e = .returned (.int .i64 (tokFault k t)) ∧ Below w.heap.size w w' := by
  have hb0 : Below w.heap.size w (w.alloc (.cells #[.int .i64 k, .string t] 199)) := (Below.refl _ _).alloc (Nat.le_refl _) _
  have HB := veil hb0
  clear hb0
  by_cases h1 : k = 1
  · subst h1
    cases h : wordOk t
    all_goals
      have HF := veil (show tokFault 1 t = _ by simp [tokFault, tokOk, h]; rfl)
      go_enter Tryz.func192, Tryz.ntmps192
      go_wp2_with (go_at_call 177; refine (word_any t ht _).mono ?_; rintro e w' ⟨rfl, hb⟩)
      go_ret
      exact ⟨by rw [HF.out]; rfl, HB.out.trans (hb.mono (by simp))⟩
  by_cases h2 : k = 2
  · subst h2
    cases h : numOk t
    all_goals
      have HF := veil (show tokFault 2 t = _ by simp [tokFault, tokOk, h]; rfl)
      go_enter Tryz.func192, Tryz.ntmps192
      go_wp2_with (go_at_call 265; refine (number_any t ht _).mono ?_; rintro e w' ⟨rfl, hb⟩)
      go_ret
      exact ⟨by rw [HF.out]; rfl, HB.out.trans (hb.mono (by simp))⟩
  by_cases h3 : k = 3
  · subst h3
    cases h : quoteOk t
    all_goals
      have HF := veil (show tokFault 3 t = _ by simp [tokFault, tokOk, h]; rfl)
      go_enter Tryz.func192, Tryz.ntmps192
      go_wp2_with (go_at_call 266; refine (quotable_any t ht _).mono ?_; rintro e w' ⟨rfl, hb⟩)
      go_ret
      exact ⟨by rw [HF.out]; rfl, HB.out.trans (hb.mono (by simp))⟩
  by_cases h4 : k = 4
  · subst h4
    cases h : signOk t
    all_goals
      have HF := veil (show tokFault 4 t = _ by simp [tokFault, tokOk, h]; rfl)
      go_enter Tryz.func192, Tryz.ntmps192
      go_wp2_with (go_at_call 267; refine (sign_any t _).mono ?_; rintro e w' ⟨rfl, rfl⟩)
      go_ret
      exact ⟨by rw [HF.out]; rfl, HB.out⟩
  · have HF := veil (show tokFault k t = 3 by simp [tokFault]; omega)
    have h1' : (k == 1) = false := beq_eq_false_iff_ne.2 h1
    have h2' : (k == 2) = false := beq_eq_false_iff_ne.2 h2
    have h3' : (k == 3) = false := beq_eq_false_iff_ne.2 h3
    have h4' : (k == 4) = false := beq_eq_false_iff_ne.2 h4
    clear h1 h2 h3 h4
    go_enter Tryz.func192, Tryz.ntmps192
    go_wp2
    go_ret
    exact ⟨by rw [HF.out]; rfl, HB.out⟩

end Go.Proofs.YtagbaimfigljiaaGreatDoor
namespace Go.Proofs.YtagbaimfigljiaaGreatDoor
open Go.RowKit
set_option maxRecDepth 100000

/-- a list of tokens, as it lies in memory: kinds and texts. -/
def TokRow (w : World) (v : Value) (l : List (Int × ByteArray)) : Prop :=
  (l = [] ∧ ∃ a cap, v = .slice a 0 cap) ∨
  ∃ b off cap, v = .slice (some ⟨b, off, none⟩) l.length cap ∧ b < w.heap.size ∧ l.length ≤ maxLen ∧
    ∀ i, i < l.length → w.cell? ⟨b, off + i * 2, none⟩ = some (.int .i64 (l.getD i (0, .empty)).1) ∧ w.cell? ⟨b, off + i * 2 + 1, none⟩ = some (.string (l.getD i (0, .empty)).2) ∧ (l.getD i (0, .empty)).2.size ≤ maxLen

def faultOf (t : Int × ByteArray) : Int := tokFault t.1 t.2
/-- what lies below lies there later, too. -/
theorem TokRow.later {w w' : World} {v : Value} {l : List (Int × ByteArray)} (h : TokRow w v l) (hb : Below w.heap.size w w') : TokRow w' v l := by
  rcases h with h | ⟨b, off, cap, rfl, hbw, hl, hcell⟩
  · exact Or.inl h
  · exact Or.inr ⟨b, off, cap, rfl, Nat.lt_of_lt_of_le hbw hb.size, hl, fun i hi =>
      ⟨(hb.cell (by exact hbw)).trans (hcell i hi).1, (hb.cell (by exact hbw)).trans (hcell i hi).2.1, (hcell i hi).2.2⟩⟩

end Go.Proofs.YtagbaimfigljiaaGreatDoor
namespace Go.Proofs.YtagbaimfigljiaaGreatDoor
open Go.RowKit
set_option maxRecDepth 100000

def endOf (p : Int → Bool) (s : ByteArray) : Nat → Nat → Nat
  | 0, i => i
  | f + 1, i => if i < s.size ∧ p (byteAt s i) = true then endOf p s f (i + 1) else i
def runEnd (p : Int → Bool) (s : ByteArray) (i : Nat) : Nat := endOf p s (s.size - i) i

theorem endOf_spec (p : Int → Bool) (s : ByteArray) : ∀ (f i : Nat), i ≤ s.size → s.size - i ≤ f → RunTo (fun j => p (byteAt s j)) s.size i (endOf p s f i)
  | 0, i, h, hf => ⟨Nat.le_refl _, h, fun j h1 h2 => absurd h2 (by simp only [endOf]; omega), fun h3 => absurd h3 (by simp only [endOf]; omega)⟩
  | f + 1, i, h, hf => by
    unfold endOf
    by_cases hc : i < s.size ∧ p (byteAt s i) = true
    · rw [if_pos hc]
      obtain ⟨a, b, c, d⟩ := endOf_spec p s f (i + 1) (by omega) (by omega)
      refine ⟨by omega, b, fun j h1 h2 => ?_, d⟩
      by_cases e : j = i
      · rw [e]; exact hc.2
      · exact c j (by omega) h2
    · rw [if_neg hc]
      refine ⟨Nat.le_refl _, h, fun j h1 h2 => absurd h2 (by omega), fun h3 => ?_⟩
      cases e : p (byteAt s i) with
      | false => exact e
      | true => exact absurd ⟨h3, e⟩ hc

theorem runEnd_spec (p : Int → Bool) (s : ByteArray) (i : Nat) (h : i ≤ s.size) : RunTo (fun j => p (byteAt s j)) s.size i (runEnd p s i) := endOf_spec p s _ i h (Nat.le_refl _)

theorem runTo_unique {p : Nat → Bool} {n a k k' : Nat} (h : RunTo p n a k) (h' : RunTo p n a k') : k = k' := by
  obtain ⟨h1, h2, h3, h4⟩ := h
  obtain ⟨g1, g2, g3, g4⟩ := h'
  rcases Nat.lt_trichotomy k k' with hlt | he | hgt
  · have a := h4 (by omega)
    rw [g3 k h1 hlt] at a
    cases a
  · exact he
  · have a := g4 (by omega)
    rw [h3 k' g1 hgt] at a
    cases a

theorem runTo_eq {p : Int → Bool} {s : ByteArray} {a k : Nat} (ha : a ≤ s.size) (h : RunTo (fun j => p (byteAt s j)) s.size a k) : k = runEnd p s a := runTo_unique h (runEnd_spec p s a ha)

def notQuote (b : Int) : Bool := b != 34
def isBlank (b : Int) : Bool := b == 32

/-- the token that begins at a place, and where it ends; none: a quote without an end. -/
def nextTok (s : ByteArray) (i : Nat) : Option ((Int × ByteArray) × Nat) :=
  if byteAt s i = 34 then
    (if runEnd notQuote s (i + 1) = s.size then none else some ((3, s.extract (i + 1) (runEnd notQuote s (i + 1))), runEnd notQuote s (i + 1) + 1))
  else if isLetter (byteAt s i) = true then some ((1, s.extract i (runEnd isWordB s i)), runEnd isWordB s i)
  else if isDigit (byteAt s i) = true then some ((2, s.extract i (runEnd isWordB s i)), runEnd isWordB s i)
  else some ((4, s.extract i (i + 1)), i + 1)

theorem size_extract_le (s : ByteArray) (a b : Nat) : (s.extract a b).size ≤ s.size := by
  rw [ByteArray.size_extract]; omega

theorem runEnd_gt {p : Int → Bool} {s : ByteArray} {i : Nat} (hi : i < s.size) (hp : p (byteAt s i) = true) : i < runEnd p s i := by
  obtain ⟨h1, h2, h3, h4⟩ := runEnd_spec p s i (by omega)
  rcases Nat.lt_or_ge i (runEnd p s i) with h | h
  · exact h
  · have e : runEnd p s i = i := by omega
    rw [e] at h4
    have h5 : p (byteAt s i) = false := h4 hi
    rw [hp] at h5
    cases h5

theorem nextTok_bd {s : ByteArray} {i : Nat} {t : Int × ByteArray} {e : Nat} (hi : i < s.size) (h : nextTok s i = some (t, e)) : i < e ∧ e ≤ s.size ∧ t.2.size ≤ s.size := by
  unfold nextTok at h
  have hle := fun (p : Int → Bool) (a : Nat) (ha : a ≤ s.size) => (runEnd_spec p s a ha).2.1
  split at h
  · split at h
    · cases h
    · rename_i hne
      simp only [Option.some.injEq, Prod.mk.injEq] at h
      obtain ⟨rfl, rfl⟩ := h
      have h1 := hle notQuote (i + 1) (by omega)
      have h2 := (runEnd_spec notQuote s (i + 1) (by omega)).1
      exact ⟨by omega, by omega, size_extract_le _ _ _⟩
  · split at h
    · rename_i hl
      simp only [Option.some.injEq, Prod.mk.injEq] at h
      obtain ⟨rfl, rfl⟩ := h
      exact ⟨runEnd_gt hi (by simp [isWordB, hl]), hle isWordB i (by omega), size_extract_le _ _ _⟩
    · split at h
      · rename_i hd
        simp only [Option.some.injEq, Prod.mk.injEq] at h
        obtain ⟨rfl, rfl⟩ := h
        exact ⟨runEnd_gt hi (by simp [isWordB, hd]), hle isWordB i (by omega), size_extract_le _ _ _⟩
      · simp only [Option.some.injEq, Prod.mk.injEq] at h
        obtain ⟨rfl, rfl⟩ := h
        exact ⟨by omega, by omega, size_extract_le _ _ _⟩

/-- the tokens of a text from a place on, by so many steps; none: something is no token. -/
def cutF (s : ByteArray) : Nat → Nat → Option (List (Int × ByteArray))
  | 0, _ => some []
  | f + 1, i =>
    if i < s.size then
      (if byteAt s i = 32 then cutF s f (i + 1)
       else match nextTok s i with
        | none => none
        | some (t, e) => if faultOf t = 0 then (cutF s f e).map (t :: ·) else none)
    else some []
def cutAt (s : ByteArray) (i : Nat) : Option (List (Int × ByteArray)) := cutF s (s.size - i) i

theorem cutF_past (s : ByteArray) (i : Nat) (h : ¬ i < s.size) : ∀ f, cutF s f i = some []
  | 0 => rfl
  | f + 1 => by unfold cutF; rw [if_neg h]

theorem cutF_enough (s : ByteArray) : ∀ (f g i : Nat), s.size - i ≤ f → s.size - i ≤ g → cutF s f i = cutF s g i
  | 0, g, i, hf, _ => by rw [cutF_past s i (by omega), cutF_past s i (by omega)]
  | f + 1, 0, i, _, hg => by rw [cutF_past s i (by omega), cutF_past s i (by omega)]
  | f + 1, g + 1, i, hf, hg => by
    unfold cutF
    by_cases hi : i < s.size
    · rw [if_pos hi, if_pos hi]
      by_cases hb : byteAt s i = 32
      · rw [if_pos hb, if_pos hb]
        exact cutF_enough s f g (i + 1) (by omega) (by omega)
      · rw [if_neg hb, if_neg hb]
        cases hn : nextTok s i with
        | none => rfl
        | some te =>
          obtain ⟨t, e⟩ := te
          have hbd := nextTok_bd hi hn
          show (if faultOf t = 0 then (cutF s f e).map (t :: ·) else none) = (if faultOf t = 0 then (cutF s g e).map (t :: ·) else none)
          rw [cutF_enough s f g e (by omega) (by omega)]
    · rw [if_neg hi, if_neg hi]

theorem cutAt_past {s : ByteArray} {i : Nat} (h : ¬ i < s.size) : cutAt s i = some [] := cutF_past s i h _

theorem cutAt_step {s : ByteArray} {i : Nat} (hi : i < s.size) : cutAt s i =
    (if byteAt s i = 32 then cutAt s (i + 1) else match nextTok s i with
      | none => none
      | some (t, e) => if faultOf t = 0 then (cutAt s e).map (t :: ·) else none) := by
  unfold cutAt
  obtain ⟨f, hf⟩ : ∃ f, s.size - i = f + 1 := ⟨s.size - i - 1, by omega⟩
  rw [hf]
  conv => lhs; unfold cutF
  rw [if_pos hi]
  by_cases hb : byteAt s i = 32
  · rw [if_pos hb, if_pos hb]
    exact cutF_enough s _ _ _ (by omega) (by omega)
  · rw [if_neg hb, if_neg hb]
    cases hn : nextTok s i with
    | none => rfl
    | some te =>
      obtain ⟨t, e⟩ := te
      have hbd := nextTok_bd hi hn
      show (if faultOf t = 0 then (cutF s f e).map (t :: ·) else none) = (if faultOf t = 0 then (cutF s (s.size - e) e).map (t :: ·) else none)
      rw [cutF_enough s f (s.size - e) e (by omega) (by omega)]

theorem cutAt_blank {s : ByteArray} {i : Nat} (hi : i < s.size) (hb : byteAt s i = 32) : cutAt s i = cutAt s (i + 1) := by
  rw [cutAt_step hi, if_pos hb]
theorem cutAt_none {s : ByteArray} {i : Nat} (hi : i < s.size) (hb : byteAt s i ≠ 32) (hn : nextTok s i = none) : cutAt s i = none := by
  rw [cutAt_step hi, if_neg hb, hn]
theorem cutAt_bad {s : ByteArray} {i : Nat} {t : Int × ByteArray} {e : Nat} (hi : i < s.size) (hb : byteAt s i ≠ 32) (hn : nextTok s i = some (t, e)) (hf : faultOf t ≠ 0) : cutAt s i = none := by
  rw [cutAt_step hi, if_neg hb, hn]
  exact if_neg hf
theorem cutAt_good {s : ByteArray} {i : Nat} {t : Int × ByteArray} {e : Nat} (hi : i < s.size) (hb : byteAt s i ≠ 32) (hn : nextTok s i = some (t, e)) (hf : faultOf t = 0) : cutAt s i = (cutAt s e).map (t :: ·) := by
  rw [cutAt_step hi, if_neg hb, hn]
  exact if_pos hf

theorem cutAt_skip {s : ByteArray} {k : Nat} : ∀ (d a : Nat), a + d = k → k ≤ s.size → (∀ j, a ≤ j → j < k → byteAt s j = 32) → cutAt s a = cutAt s k
  | 0, a, h, _, _ => by rw [← h]; rfl
  | d + 1, a, h, hk, hall => by
    rw [cutAt_blank (by omega) (hall a (Nat.le_refl _) (by omega))]
    exact cutAt_skip d (a + 1) (by omega) hk fun j h1 h2 => hall j (by omega) h2

theorem cutAt_run {s : ByteArray} {a : Nat} (ha : a ≤ s.size) : cutAt s (runEnd isBlank s a) = cutAt s a := by
  obtain ⟨h1, h2, h3, _⟩ := runEnd_spec isBlank s a ha
  refine (cutAt_skip (runEnd isBlank s a - a) a (by omega) h2 fun j g1 g2 => ?_).symm
  have := h3 j g1 g2
  simpa [isBlank] using this

/-- what the two functions answer: an error's number, and the tokens. -/
def cutErr (s : ByteArray) : Int :=
  if 1500 < s.size then 1 else match cutAt s 0 with
    | none => 4
    | some l => if 200 < l.length then 1 else 0
def cutToks (s : ByteArray) : List (Int × ByteArray) :=
  if 1500 < s.size then [] else match cutAt s 0 with
    | none => []
    | some l => if 200 < l.length then [] else l

end Go.Proofs.YtagbaimfigljiaaGreatDoor
namespace Go.Proofs.YtagbaimfigljiaaGreatDoor
open Go.RowKit
set_option maxRecDepth 100000

def CloneSaid : Prop := ∀ (s : ByteArray) (w : World), s.size ≤ 281474976710656 → Calls Tryz.prog 67 #[.string s] w fun e w' => e = .returned (.string s) ∧ Below w.heap.size w w'

set_option maxHeartbeats 400000 in
theorem tokenOf_any (hcl : CloneSaid) (k : Int) (t : ByteArray) (ht : t.size ≤ 281474976710656) (w : World) :
    Calls Tryz.prog 263 #[.int .i64 k, .string t] w fun e w' => e = .returned (.agg #[.int .i64 k, .string t]) ∧ Below w.heap.size w w' := by
  go_enter Tryz.func263, Tryz.ntmps263
  go_wp2_with fail
  refine (hcl t _ ht).mono ?_
  rintro e w1 ⟨rfl, hb⟩
  have c0 := hb.cell (p := ⟨w.heap.size, 0, none⟩) (by simp)
  have c1 := hb.cell (p := ⟨w.heap.size, 1, none⟩) (by simp)
  have f0 := hb.frozen (p := ⟨w.heap.size, 0, none⟩) (by simp)
  have f1 := hb.frozen (p := ⟨w.heap.size, 1, none⟩) (by simp)
  simp [World.cell?_alloc_at, World.frozen?_alloc_at] at c0 c1 f0 f1
  have hz : w.heap.size < w1.heap.size := by have := hb.size; simp at this; omega
  have HB := veil hb
  clear hb
  go_wp2
  have q0 : ((w1.setCell ⟨w.heap.size, 0, none⟩ (.int .i64 k)).setCell ⟨w.heap.size, 1, none⟩ (.string t)).cell? ⟨w.heap.size, 0, none⟩ = some (.int .i64 k) := by
    rw [World.cell?_setCell_other _ _ _ _ (by intro h; injection h; omega)]
    exact World.cell?_setCell_same _ _ _ c0
  have q1 : ((w1.setCell ⟨w.heap.size, 0, none⟩ (.int .i64 k)).setCell ⟨w.heap.size, 1, none⟩ (.string t)).cell? ⟨w.heap.size, 1, none⟩ = some (.string t) := by
    refine World.cell?_setCell_same _ _ _ (u := .string ⟨#[]⟩) ?_
    rw [World.cell?_setCell_other _ _ _ _ (by intro h; injection h; omega)]
    exact c1
  have hbb := (((Below.refl w.heap.size w).alloc (Nat.le_refl _) _).trans (HB.out.mono (by simp))).setCell (p := ⟨w.heap.size, 0, none⟩) (Nat.le_refl _) (.int .i64 k)
  exact bodyPost_ret (v := .agg #[.int .i64 k, .string t]) (by simp [results, Tryz.results263, go_sem, q0, q1]) rfl ⟨rfl, hbb.setCell (p := ⟨w.heap.size, 1, none⟩) (Nat.le_refl _) (.string t)⟩

theorem notQuote_any (b : Int) (w : World) : Calls Tryz.prog 262 #[.int .u8 b] w fun e w' => e = .returned (.bool (notQuote b)) ∧ w = w' := by
  go_enter Tryz.func262, Tryz.ntmps262
  go_wp2
  go_ret
  exact ⟨rfl, rfl⟩

theorem run_pure (g : Nat) (eg : ∀ args w, (callFunc g args).run Tryz.prog w = .ok (.enter g args) w) (q : Int → Bool) (hq : ∀ (b : Int) (w : World), Calls Tryz.prog g #[.int .u8 b] w fun e w' => e = .returned (.bool (q b)) ∧ w = w')
    (s : ByteArray) (hs : s.size ≤ maxLen) (B : Nat) (a : Int) (h0 : 0 ≤ a) (h1 : a ≤ s.size) (w : World) (hc : w.cell? ⟨B, 0, none⟩ = some (.string s)) :
    Calls Tryz.prog 261 #[.int .i64 a, .func (.func g) #[] #[], .pointer (some ⟨B, 0, none⟩)] w fun e w' => e = .returned (.int .i64 (runEnd q s a.toNat)) ∧ w = w' := by
  refine (run_any g #[] eg s hs (fun j => q (byteAt s j)) (fun _ W => w = W) B ?_ a ?_ h0 h1 w rfl).mono ?_
  · rintro k W rfl
    exact hc
  · rintro k hk W _ _ rfl
    refine (hq _ _).mono ?_
    rintro e w' ⟨rfl, rfl⟩
    exact ⟨by rw [byteAt_get], rfl⟩
  · rintro e w' ⟨k, rfl, hk, _, h⟩
    exact ⟨by rw [runTo_eq (by omega) hk], h⟩

def tokAns (s : ByteArray) (i : Nat) : (Int × ByteArray) × Nat := (nextTok s i).getD ((0, ⟨#[]⟩), s.size)

theorem two_set {w1 : World} {b : Nat} {x y : Value} (u v : Value) (c0 : w1.cell? ⟨b, 0, none⟩ = some x) (c1 : w1.cell? ⟨b, 1, none⟩ = some y) :
    ((w1.setCell ⟨b, 0, none⟩ u).setCell ⟨b, 1, none⟩ v).cell? ⟨b, 0, none⟩ = some u ∧ ((w1.setCell ⟨b, 0, none⟩ u).setCell ⟨b, 1, none⟩ v).cell? ⟨b, 1, none⟩ = some v := by
  constructor
  · rw [World.cell?_setCell_other _ _ _ _ (by intro h; injection h; omega)]
    exact World.cell?_setCell_same _ _ _ c0
  · refine World.cell?_setCell_same _ _ _ (u := y) ?_
    rw [World.cell?_setCell_other _ _ _ _ (by intro h; injection h; omega)]
    exact c1

theorem tok_cells {w w1 : World} {x y : Value} {c : Array Value} {t : TypeId} (hb : Below ((w.alloc (.cells #[x, y] 199)).alloc (.cells c t)).heap.size ((w.alloc (.cells #[x, y] 199)).alloc (.cells c t)) w1) :
    w1.cell? ⟨w.heap.size, 0, none⟩ = some x ∧ w1.cell? ⟨w.heap.size, 1, none⟩ = some y ∧ w1.frozen? ⟨w.heap.size, 0, none⟩ = false ∧ w1.frozen? ⟨w.heap.size, 1, none⟩ = false ∧ w.heap.size < w1.heap.size ∧ Below w.heap.size w w1 := by
  have c0 := hb.cell (p := ⟨w.heap.size, 0, none⟩) (by simp; omega)
  have c1 := hb.cell (p := ⟨w.heap.size, 1, none⟩) (by simp; omega)
  have f0 := hb.frozen (p := ⟨w.heap.size, 0, none⟩) (by simp; omega)
  have f1 := hb.frozen (p := ⟨w.heap.size, 1, none⟩) (by simp; omega)
  rw [World.cell?_alloc_past _ _ _ (by simp), World.cell?_alloc_at _ _ _ _ rfl] at c0 c1
  rw [World.frozen?_alloc_past _ _ _ (by simp), World.frozen?_alloc_at _ _ _ _ rfl] at f0 f1
  refine ⟨c0, c1, f0, f1, ?_, ?_⟩
  · have := hb.size; simp at this; omega
  · exact (((Below.refl w.heap.size w).alloc (Nat.le_refl _) _).alloc (by simp) _).trans (hb.mono (by simp; omega))

theorem tok_store {w w1 : World} (u v : Value) (h : Below w.heap.size w w1) : Below w.heap.size w ((w1.setCell ⟨w.heap.size, 0, none⟩ u).setCell ⟨w.heap.size, 1, none⟩ v) :=
  (h.setCell (p := ⟨w.heap.size, 0, none⟩) (Nat.le_refl _) u).setCell (p := ⟨w.heap.size, 1, none⟩) (Nat.le_refl _) v

theorem ans_open {s : ByteArray} {i E : Nat} (h : byteAt s i = 34) (hE : runEnd notQuote s (i + 1) = E) (he : E = s.size) : tokAns s i = ((0, ⟨#[]⟩), E) := by
  simp only [tokAns, nextTok, if_pos h, hE, he, if_true, Option.getD_none]
theorem ans_quote {s : ByteArray} {i E : Nat} (h : byteAt s i = 34) (hE : runEnd notQuote s (i + 1) = E) (he : E ≠ s.size) : tokAns s i = ((3, s.extract (i + 1) E), E + 1) := by
  simp only [tokAns, nextTok, if_pos h, hE, if_neg he, Option.getD_some]
theorem ans_word {s : ByteArray} {i E : Nat} (h : byteAt s i ≠ 34) (hl : isLetter (byteAt s i) = true) (hE : runEnd isWordB s i = E) : tokAns s i = ((1, s.extract i E), E) := by
  simp only [tokAns, nextTok, if_neg h, if_pos hl, hE, Option.getD_some]
theorem ans_num {s : ByteArray} {i E : Nat} (h : byteAt s i ≠ 34) (hl : isLetter (byteAt s i) = false) (hd : isDigit (byteAt s i) = true) (hE : runEnd isWordB s i = E) : tokAns s i = ((2, s.extract i E), E) := by
  simp only [tokAns, nextTok, if_neg h, hl, hd, hE, Option.getD_some, Bool.false_eq_true, if_false, if_true]
theorem ans_sign {s : ByteArray} {i : Nat} (h : byteAt s i ≠ 34) (hl : isLetter (byteAt s i) = false) (hd : isDigit (byteAt s i) = false) : tokAns s i = ((4, s.extract i (i + 1)), i + 1) := by
  simp only [tokAns, nextTok, if_neg h, hl, hd, Option.getD_some, Bool.false_eq_true, if_false]

set_option maxHeartbeats 1000000 in
theorem tokenAt_any (hcl : CloneSaid) (s : ByteArray) (hs : s.size ≤ 1500) (i : Nat) (hi : i < s.size) (w : World) :
    Calls Tryz.prog 191 #[.string s, .int .i64 i] w fun e w' => e = .returned (.tuple #[.agg #[.int .i64 (tokAns s i).1.1, .string (tokAns s i).1.2], .int .i64 (tokAns s i).2]) ∧ Below w.heap.size w w' := by
  have HM : Hid (s.size ≤ maxLen) := by show _ ≤ _; unfold maxLen; omega
  have HB := veil (byteAt_get s i hi)
  have hc : ((w.alloc (.cells #[.int .i64 0, .string ⟨#[]⟩] 199)).alloc (.cells #[.string s] 9)).cell? ⟨w.heap.size + 1, 0, none⟩ = some (.string s) := by
    rw [World.cell?_alloc_at _ _ _ _ (by simp)]; rfl
  by_cases h34 : (((s[i]'hi).toNat : Int) == 34) = true
  · have hr := run_pure 262 (enters_of Tryz.func262 (by kernel_rfl) rfl) notQuote notQuote_any s HM.out (w.heap.size + 1) ((i : Int) + 1) (by omega) (by omega) _ hc
    rw [show ((i : Int) + 1).toNat = i + 1 from by omega] at hr
    have h34' : byteAt s i = 34 := by rw [← HB.out]; simpa using h34
    obtain ⟨e1, e2, _, _⟩ := runEnd_spec notQuote s (i + 1) (by omega)
    have HO := veil (@ans_open s i (runEnd notQuote s (i + 1)) h34' rfl)
    have HQ := veil (@ans_quote s i (runEnd notQuote s (i + 1)) h34' rfl)
    clear h34'
    generalize runEnd notQuote s (i + 1) = E at *
    by_cases hE : E = s.size
    · have hE' : ((E : Int) == (s.size : Int)) = true := by simp [hE]
      have HA := veil (HO.out hE)
      clear HO HQ hE
      go_enter Tryz.func191, Tryz.ntmps191
      go_wp2_with (go_at_call 189; refine (runOf_any _ _).mono ?_; rintro e w' ⟨rfl, rfl⟩)
      refine hr.mono ?_
      rintro e w' ⟨rfl, rfl⟩
      clear hr
      go_wp2
      exact bodyPost_ret (v := .tuple #[.agg #[.int .i64 0, .string ⟨#[]⟩], .int .i64 E]) (by simp [results, Tryz.results191, go_sem]) rfl
        ⟨by rw [HA.out], ((Below.refl w.heap.size w).alloc (Nat.le_refl _) _).alloc (by simp) _⟩
    · have hE' : ((E : Int) == (s.size : Int)) = false := by rw [beq_eq_false_iff_ne]; omega
      have hlt : E < s.size := by omega
      have HA := veil (HQ.out hE)
      clear HO HQ hE
      go_enter Tryz.func191, Tryz.ntmps191
      go_wp2_with (go_at_call 189; refine (runOf_any _ _).mono ?_; rintro e w' ⟨rfl, rfl⟩)
      refine hr.mono ?_
      rintro e w' ⟨rfl, rfl⟩
      clear hr
      go_wp2_with fail
      refine (tokenOf_any hcl 3 (s.extract (i + 1) E) (by have := size_extract_le s (i + 1) E; omega) _).mono ?_
      rintro e w1 ⟨rfl, hb⟩
      obtain ⟨c0, c1, f0, f1, hz, hbb⟩ := tok_cells hb
      clear hb
      have HBB := veil hbb
      have Q2 := veil (two_set (.int .i64 3) (.string (s.extract (i + 1) E)) c0 c1)
      clear hbb
      go_wp2
      obtain ⟨q0, q1⟩ := Q2.out
      exact bodyPost_ret (v := .tuple #[.agg #[.int .i64 3, .string (s.extract (i + 1) E)], .int .i64 ((E : Int) + 1)]) (by simp [results, Tryz.results191, go_sem, q0, q1]) rfl
        ⟨by rw [HA.out]; simp, tok_store _ _ HBB.out⟩
  · have h34' : (((s[i]'hi).toNat : Int) == 34) = false := by simpa using h34
    have hne : byteAt s i ≠ 34 := by rw [← HB.out]; simpa using h34
    clear h34
    by_cases hl : isLetter (byteAt s i) = true
    · have hr := run_pure 253 (enters_of Tryz.func253 (by kernel_rfl) rfl) isWordB wordByte_any s HM.out (w.heap.size + 1) (i : Int) (by omega) (by omega) _ hc
      rw [Int.toNat_natCast] at hr
      have hl' : isLetter ((s[i]'hi).toNat : Int) = true := by rw [HB.out]; exact hl
      have HA := veil (@ans_word s i (runEnd isWordB s i) hne hl rfl)
      obtain ⟨e1, e2, _, _⟩ := runEnd_spec isWordB s i (by omega)
      clear hne hl
      generalize runEnd isWordB s i = E at *
      go_enter Tryz.func191, Tryz.ntmps191
      go_wp2_with (first | (go_at_call 189; refine (runOf_any _ _).mono ?_; rintro e w' ⟨rfl, rfl⟩) | (go_at_call 251; refine (letter_any _ _).mono ?_; rintro e w' ⟨rfl, rfl⟩))
      refine hr.mono ?_
      rintro e w' ⟨rfl, rfl⟩
      clear hr
      go_wp2_with fail
      refine (tokenOf_any hcl 1 (s.extract i E) (by have := size_extract_le s i E; omega) _).mono ?_
      rintro e w1 ⟨rfl, hb⟩
      obtain ⟨c0, c1, f0, f1, hz, hbb⟩ := tok_cells hb
      clear hb
      have HBB := veil hbb
      have Q2 := veil (two_set (.int .i64 1) (.string (s.extract i E)) c0 c1)
      clear hbb
      go_wp2
      obtain ⟨q0, q1⟩ := Q2.out
      exact bodyPost_ret (v := .tuple #[.agg #[.int .i64 1, .string (s.extract i E)], .int .i64 E]) (by simp [results, Tryz.results191, go_sem, q0, q1]) rfl
        ⟨by rw [HA.out], tok_store _ _ HBB.out⟩
    · have hlf : isLetter (byteAt s i) = false := by simpa using hl
      have hl' : isLetter ((s[i]'hi).toNat : Int) = false := by rw [HB.out]; exact hlf
      clear hl
      by_cases hd : isDigit (byteAt s i) = true
      · have hr := run_pure 253 (enters_of Tryz.func253 (by kernel_rfl) rfl) isWordB wordByte_any s HM.out (w.heap.size + 1) (i : Int) (by omega) (by omega) _ hc
        rw [Int.toNat_natCast] at hr
        have hd' : isDigit ((s[i]'hi).toNat : Int) = true := by rw [HB.out]; exact hd
        have HA := veil (@ans_num s i (runEnd isWordB s i) hne hlf hd rfl)
        obtain ⟨e1, e2, _, _⟩ := runEnd_spec isWordB s i (by omega)
        clear hne hd hlf
        generalize runEnd isWordB s i = E at *
        go_enter Tryz.func191, Tryz.ntmps191
        go_wp2_with (first | (go_at_call 189; refine (runOf_any _ _).mono ?_; rintro e w' ⟨rfl, rfl⟩) | (go_at_call 251; refine (letter_any _ _).mono ?_; rintro e w' ⟨rfl, rfl⟩) | (go_at_call 264; refine (digit_any _ _).mono ?_; rintro e w' ⟨rfl, rfl⟩))
        refine hr.mono ?_
        rintro e w' ⟨rfl, rfl⟩
        clear hr
        go_wp2_with fail
        refine (tokenOf_any hcl 2 (s.extract i E) (by have := size_extract_le s i E; omega) _).mono ?_
        rintro e w1 ⟨rfl, hb⟩
        obtain ⟨c0, c1, f0, f1, hz, hbb⟩ := tok_cells hb
        clear hb
        have HBB := veil hbb
        have Q2 := veil (two_set (.int .i64 2) (.string (s.extract i E)) c0 c1)
        clear hbb
        go_wp2
        obtain ⟨q0, q1⟩ := Q2.out
        exact bodyPost_ret (v := .tuple #[.agg #[.int .i64 2, .string (s.extract i E)], .int .i64 E]) (by simp [results, Tryz.results191, go_sem, q0, q1]) rfl
          ⟨by rw [HA.out], tok_store _ _ HBB.out⟩
      · have hdf : isDigit (byteAt s i) = false := by simpa using hd
        have hd' : isDigit ((s[i]'hi).toNat : Int) = false := by rw [HB.out]; exact hdf
        have HA := veil (@ans_sign s i hne hlf hdf)
        clear hne hd hlf hdf
        go_enter Tryz.func191, Tryz.ntmps191
        go_wp2_with (first | (go_at_call 189; refine (runOf_any _ _).mono ?_; rintro e w' ⟨rfl, rfl⟩) | (go_at_call 251; refine (letter_any _ _).mono ?_; rintro e w' ⟨rfl, rfl⟩) | (go_at_call 264; refine (digit_any _ _).mono ?_; rintro e w' ⟨rfl, rfl⟩))
        refine (tokenOf_any hcl 4 (s.extract i (i + 1)) (by have := size_extract_le s i (i + 1); omega) _).mono ?_
        rintro e w1 ⟨rfl, hb⟩
        obtain ⟨c0, c1, f0, f1, hz, hbb⟩ := tok_cells hb
        clear hb
        have HBB := veil hbb
        have Q2 := veil (two_set (.int .i64 4) (.string (s.extract i (i + 1))) c0 c1)
        clear hbb
        go_wp2
        obtain ⟨q0, q1⟩ := Q2.out
        exact bodyPost_ret (v := .tuple #[.agg #[.int .i64 4, .string (s.extract i (i + 1))], .int .i64 ((i : Int) + 1)]) (by simp [results, Tryz.results191, go_sem, q0, q1]) rfl
          ⟨by rw [HA.out]; simp, tok_store _ _ HBB.out⟩

end Go.Proofs.YtagbaimfigljiaaGreatDoor
namespace Go.Proofs.YtagbaimfigljiaaGreatDoor
open Go.RowKit
set_option maxRecDepth 100000

theorem clone_said : CloneSaid := by
  intro s w h
  go_enter Tryz.func67, Tryz.ntmps67
  go_wp2_with (go_at_call 117; refine (Tryz.stringslite_Clone s _ h).mono ?_; rintro e w' ⟨rfl, hb⟩)
  go_ret
  exact ⟨rfl, hb⟩

end Go.Proofs.YtagbaimfigljiaaGreatDoor
