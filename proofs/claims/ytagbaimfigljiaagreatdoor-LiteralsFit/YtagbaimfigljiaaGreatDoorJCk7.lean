import Derived.Test.YtagbaimfigljiaaGreatDoorJCk6
import Derived.Test.YtagbaimfigljiaaGreatDoorProg
import Derived.Shelf.Strings.Builder1
import Derived.Shelf.Strings.Builder2
import Derived.Shelf.Small.Bits
import Derived.Shelf.Small.Strs
import Derived.Shelf.Strconv.Atoi
import Derived.Shelf.Strconv.Itoa0
import Derived.Shelf.LaysM
import Derived.Shelf.Strconv.Clone
import Derived.Shelf.Strings.Search1
import Derived.Shelf.Strings.Search2
import Derived.Shelf.Strings.Search3
import Derived.Shelf.Strings.Count
import Derived.Shelf.Strings.Shaped
import Derived.Shelf.Strings.Split
import Derived.Shelf.Strings.Replace
import Derived.Shelf.Bits.Mul64
import Derived.Shelf.Unicode.DecodeSlow
import Derived.Lib.UnsafeStr
namespace Go.Proofs.YtagbaimfigljiaaGreatDoor
open Go.RowKit
set_option maxRecDepth 100000

/-- the reader's args reads as 'pList' says. -/
def ArgsReads (f d : Nat) : Prop := ∀ (B : Nat) (l : Toks) (i : Nat) (fin : ByteArray) (w : World) (g : Nat) (lb : Array Value), (∀ args w, (callFunc g args).run Tryz.prog w = .ok (.enter g args) w) → ∀ (R : Int → World → Prop), RdAt B l i w →
    (∀ e, pList (pEx l f) l fin.data.toList (l.length + 1) [] i = .bad e → ∀ w', Moved B w w' → R e w') →
    (∀ xs j, pList (pEx l f) l fin.data.toList (l.length + 1) [] i = .ok xs j → ∀ w' v, Moved B w w' → RdAt B l j w' → SlAt (Fresh w.heap.size w') (ExAt (Fresh w.heap.size w') w') 5 xs v → Calls Tryz.prog g (#[v] ++ lb) w' (Ends R)) →
    Calls Tryz.prog 334 #[.pointer (some ⟨B, 0, none⟩), .int .i64 d, .string fin, .func (.func g) #[] lb] w (Ends R)

def CallReads (f d : Nat) : Prop := ∀ (B : Nat) (l : Toks) (i : Nat) (w : World) (g : Nat) (lb : Array Value), (∀ args w, (callFunc g args).run Tryz.prog w = .ok (.enter g args) w) → ∀ (R : Int → World → Prop), RdAt B l i w →
    (∀ e, pCall (pEx l f) l i = .bad e → ∀ w', Moved B w w' → R e w') →
    (∀ x j, pCall (pEx l f) l i = .ok x j → ∀ w' v, Moved B w w' → RdAt B l j w' → ExIs (Fresh w.heap.size w') w' x v → Calls Tryz.prog g (#[v] ++ lb) w' (Ends R)) →
    Calls Tryz.prog 337 #[.pointer (some ⟨B, 0, none⟩), .int .i64 d, .func (.func g) #[] lb] w (Ends R)

theorem call_back (g : Nat) (lb : Array Value) (eg : ∀ args w, (callFunc g args).run Tryz.prog w = .ok (.enter g args) w) (R : Int → World → Prop) (bk bo bn : Nat) (o n : ByteArray) (va1 : Option Addr) (va2 va3 : Nat) (W : World)
    (hk : W.cell? ⟨bk, 0, none⟩ = some (.func (.func g) #[] lb)) (ho : W.cell? ⟨bo, 0, none⟩ = some (.string o)) (hn : W.cell? ⟨bn, 0, none⟩ = some (.string n))
    (h : Calls Tryz.prog g (#[.agg #[.int .i64 4, .int .i64 0, .string o, .string n, .slice va1 va2 va3]] ++ lb) W (Ends R)) :
    Calls Tryz.prog 353 #[.slice va1 va2 va3, .pointer (some ⟨bk, 0, none⟩), .pointer (some ⟨bo, 0, none⟩), .pointer (some ⟨bn, 0, none⟩)] W (Ends R) := by
  have HK := veil h
  clear h
  go_enter Tryz.func353, Tryz.ntmps353
  go_wp2_with fail
  refine HK.out.mono ?_
  rintro e w' ⟨y, rfl, hy⟩
  have HY := veil hy
  clear hy
  go_wp2_with fail
  go_ret
  exact ⟨_, rfl, HY.out⟩

set_option maxHeartbeats 4000000 in
theorem call_next (f d : Nat) (hA : ArgsReads f d) : CallReads f d := by
  intro B l i w g lb eg R hr hbad hok
  have hlt := rd_lt hr
  have hal : Below w.heap.size w (w.alloc (.cells #[.func (.func g) #[] lb] 249)) := (Below.refl _ _).alloc (Nat.le_refl _) _
  have HM0 : Hid (Moved B w (w.alloc (.cells #[.func (.func g) #[] lb] 249))) := Moved.of_below hal (by omega)
  have HR0 := veil (rd_below hr hal)
  have HBad := veil hbad
  have HOk := veil hok
  have HEg := veil eg
  have HA := veil hA
  have hef := makeFunc_run
  have HP : Hid (pCall (pEx l f) l i = match nameAt l i with
    | .bad e => .bad e
    | .ok x j => if sgn l j [40] = true then (if sgn l (j + 1) [41] = true then .ok (exCall x.1 x.2 []) (j + 2) else match pList (pEx l f) l [41] (l.length + 1) [] (j + 1) with
        | .bad e => .bad e
        | .ok xs j' => .ok (exCall x.1 x.2 xs) j') else if noneB x.1 = true then .ok (exParam x.2) j else .bad 4) := by show _ = _; unfold pCall; rfl
  clear hbad hok hr hal eg hA
  go_enter Tryz.func337, Tryz.ntmps337
  go_wp2_with fail
  refine (name_next B l i _ HR0.out).mono ?_
  rintro e w1 ⟨hm, ⟨hn, o, t, rfl⟩ | ⟨o, t, j, hn, ho, hti, rfl, hr⟩⟩
  · rw [hn] at HP
    have hsz1 : w.heap.size + 1 ≤ w1.heap.size := by have := hm.below.size; simpa using this
    have HB := veil (HBad.out _ HP.out ((w1.alloc (.cells #[.string o] 9)).alloc (.cells #[.string t] 9)) (((HM0.out.trans hm).alloc (by omega) _).alloc (by simp; omega) _))
    clear hm hn HBad HOk
    go_wp2_with fail
    go_ret
    exact ⟨_, rfl, HB.out⟩
  · rw [hn] at HP
    have hsz1 : w.heap.size + 1 ≤ w1.heap.size := by have := hm.below.size; simpa using this
    have hal2 : Below w1.heap.size w1 ((w1.alloc (.cells #[.string o] 9)).alloc (.cells #[.string t] 9)) := ((Below.refl _ _).alloc (Nat.le_refl _) _).alloc (by simp) _
    have HM2 : Hid (Moved B w ((w1.alloc (.cells #[.string o] 9)).alloc (.cells #[.string t] 9))) := (HM0.out.trans hm).trans (Moved.of_below hal2 (by omega))
    have hck : w1.cell? ⟨w.heap.size, 0, none⟩ = some (.func (.func g) #[] lb) := (hm.cell (by omega) (by simp) 0).trans (World.cell?_alloc_at _ _ _ _ rfl)
    have HR2 := veil (rd_below hr hal2)
    have hw2 : ∃ w2, ((w1.alloc (.cells #[.string o] 9)).alloc (.cells #[.string t] 9)) = w2 ∧ w2.cell? ⟨w.heap.size, 0, none⟩ = some (.func (.func g) #[] lb) ∧ w2.cell? ⟨w1.heap.size, 0, none⟩ = some (.string o) ∧ w2.cell? ⟨w1.heap.size + 1, 0, none⟩ = some (.string t) ∧ w2.heap.size = w1.heap.size + 2 :=
      ⟨_, rfl, (World.cell?_alloc_old _ _ _ (by simp; omega)).trans ((World.cell?_alloc_old _ _ _ (by show w.heap.size ≠ _; omega)).trans hck), (World.cell?_alloc_old _ _ _ (by simp)).trans (World.cell?_alloc_at _ _ _ _ rfl), World.cell?_alloc_at _ _ _ _ (by simp), by simp⟩
    have hos := noneOr_le ho
    have hts := ident_le hti
    have HNN := veil (text_eq o [])
    clear hm hn hr hal2 hck
    obtain ⟨w2, hwe, x0, x1, x2, hs2⟩ := hw2
    rw [hwe] at HM2 HR2
    have HX := veil (show ∀ W, Moved B w2 W → W.cell? ⟨w.heap.size, 0, none⟩ = some (.func (.func g) #[] lb) ∧ W.cell? ⟨w1.heap.size, 0, none⟩ = some (.string o) ∧ W.cell? ⟨w1.heap.size + 1, 0, none⟩ = some (.string t) from fun W h => ⟨(h.cell (by omega) (by omega) 0).trans x0, (h.cell (by omega) (by omega) 0).trans x1, (h.cell (by omega) (by omega) 0).trans x2⟩)
    go_wp2_with fail
    try rw [hwe]
    refine (sign_next B l j ⟨#[40]⟩ _ HR2.out).mono ?_
    rintro e w3 ⟨rfl, q1, q2⟩
    have HN3 := veil q2
    have HM3 := veil (HM2.out.trans q2)
    have hsz3 := q2.below.size
    obtain ⟨y0, y1, y2⟩ := HX.out w3 q2
    clear x0 x1 x2
    cases hs : sgn l j [40]
    · have hs' : sgn l j (ByteArray.mk #[40]).data.toList = false := hs
      rw [hs'] at q1
      rw [if_neg (by rw [hs]; simp)] at HP
      have HR3 : Hid (RdAt B l j w3) := q1
      try rw [hs']
      cases hoe : (o.toList == [])
      · rw [if_neg (by rw [noneB, ← HNN.out, hoe]; simp)] at HP
        have HB := veil (HBad.out _ HP.out w3 HM3.out)
        clear q1 q2 HBad HOk hwe
        go_wp2_with fail
        go_ret
        exact ⟨_, rfl, HB.out⟩
      · rw [if_pos (by rw [noneB, ← HNN.out, hoe])] at HP
        have HK := veil (HOk.out _ _ HP.out w3 (.agg #[.int .i64 3, .int .i64 0, .string ⟨#[]⟩, .string t, .slice none 0 0]) HM3.out HR3.out ⟨_, _, _, _, _, rfl, [], rfl, empty_le, hts, none_sl⟩)
        have eg := HEg.out
        clear q1 q2 HBad HOk hwe
        go_wp2_with fail
        refine HK.out.mono ?_
        rintro e w' ⟨y, rfl, hy⟩
        have HY := veil hy
        clear hy
        go_wp2_with fail
        go_ret
        exact ⟨_, rfl, HY.out⟩
    · have hs' : sgn l j (ByteArray.mk #[40]).data.toList = true := hs
      rw [hs'] at q1
      rw [if_pos hs] at HP
      have HR3 : Hid (RdAt B l (j + 1) w3) := q1
      try rw [hs']
      clear q1 q2
      go_wp2_with fail
      refine (sign_next B l (j + 1) ⟨#[41]⟩ _ HR3.out).mono ?_
      rintro e w4 ⟨rfl, q1, q2⟩
      have HN4 := veil (HN3.out.trans q2)
      have HM4 := veil (HM3.out.trans q2)
      have hsz4 := q2.below.size
      obtain ⟨z0, z1, z2⟩ := HX.out w4 HN4.out
      clear y0 y1 y2
      cases hc : sgn l (j + 1) [41]
      · have hc' : sgn l (j + 1) (ByteArray.mk #[41]).data.toList = false := hc
        rw [hc'] at q1
        rw [if_neg (by rw [hc]; simp)] at HP
        have cA := HA.out B l (j + 1) ⟨#[41]⟩ w4 353 #[.pointer (some ⟨w.heap.size, 0, none⟩), .pointer (some ⟨w1.heap.size, 0, none⟩), .pointer (some ⟨w1.heap.size + 1, 0, none⟩)] (enters_of Tryz.func353 (by kernel_rfl) rfl) R q1
          (fun e he w' hm => HBad.out e (by rw [HP.out]; rw [show pList (pEx l f) l [41] (l.length + 1) [] (j + 1) = .bad e from he]) w' (HM4.out.trans hm))
          (fun xs j' hx w' v hm hr' hv => by
            obtain ⟨va1, va2, va3, rfl⟩ := hv.slice
            obtain ⟨u0, u1, u2⟩ := HX.out w' (HN4.out.trans hm)
            refine call_back g lb HEg.out R _ _ _ o t va1 va2 va3 w' u0 u1 u2 ?_
            exact HOk.out (exCall o t xs) j' (by rw [HP.out]; rw [show pList (pEx l f) l [41] (l.length + 1) [] (j + 1) = .ok xs j' from hx]) w' _ (HM4.out.trans hm) hr' ⟨_, _, _, _, _, rfl, xs, rfl, hos, hts, exSl_keep ⟨fun _ _ => rfl, fun _ hb => ⟨by have := hb.1; omega, hb.2⟩⟩ hv⟩)
        have HCA := veil cA
        try rw [hc']
        clear q1 q2 HBad HOk cA hwe
        go_wp2_with fail
        refine HCA.out.mono ?_
        rintro e w' ⟨y, rfl, hy⟩
        have HY := veil hy
        clear hy
        go_wp2_with fail
        go_ret
        exact ⟨_, rfl, HY.out⟩
      · have hc' : sgn l (j + 1) (ByteArray.mk #[41]).data.toList = true := hc
        rw [hc'] at q1
        rw [if_pos hc] at HP
        have HCA := veil (call_back g lb HEg.out R _ _ _ o t none 0 0 w4 z0 z1 z2 (HOk.out _ _ HP.out w4 _ HM4.out q1 ⟨_, _, _, _, _, rfl, [], rfl, hos, hts, none_sl⟩))
        have ec := enters_of (P := Tryz.prog) Tryz.func353 (by kernel_rfl) rfl
        try rw [hc']
        clear q1 q2 HBad HOk hwe
        go_wp2_with fail
        refine HCA.out.mono ?_
        rintro e w' ⟨y, rfl, hy⟩
        have HY := veil hy
        clear hy
        go_wp2_with fail
        go_ret
        exact ⟨_, rfl, HY.out⟩

end Go.Proofs.YtagbaimfigljiaaGreatDoor
namespace Go.Proofs
open Go.Shelf
def Tryz.lays172_ren : Go.Shelf.Ren := ⟨fun | 172 => 336 | 244 => 351 | 245 => 352 | 247 => 359 | 279 => 360 | 280 => 361 | 281 => 362 | 282 => 363 | 287 => 367 | 316 => 117 | 171 => 174 | 205 => 368 | 321 => 369 | 322 => 370 | 243 => 250 | 246 => 308 | 283 => 329 | 284 => 330 | 285 => 331 | 286 => 332 | 129 => 137 | 317 => 345 | 318 => 346 | 319 => 347 | 320 => 348 | 337 => 356 | 338 => 357 | n => n, fun | 9 => 9 | 3 => 3 | 75 => 161 | 76 => 162 | 4 => 4 | 5 => 5 | 167 => 349 | 37 => 94 | 0 => 0 | 85 => 350 | 2 => 2 | 168 => 352 | 53 => 197 | 175 => 360 | 46 => 133 | 210 => 363 | 127 => 167 | 145 => 368 | 143 => 366 | 21 => 21 | 171 => 331 | 173 => 333 | 212 => 342 | 51 => 195 | 20 => 20 | 213 => 343 | 232 => 358 | 233 => 359 | 80 => 104 | n => n, fun | 15 => 7 | 16 => 8 | 17 => 4 | 18 => 5 | 19 => 6 | n => n⟩
theorem Tryz.lays172 : Go.Proofs.Lays.n172 Tryz.prog Tryz.lays172_ren := {
  mixed := by kernel_rfl
  f129 := Tryz.func137.trans (congrArg some (by kernel_rfl))
  f171 := Tryz.func174.trans (congrArg some (by kernel_rfl))
  f172 := Tryz.func336.trans (congrArg some (by kernel_rfl))
  f205 := Tryz.func368.trans (congrArg some (by kernel_rfl))
  f243 := Tryz.func250.trans (congrArg some (by kernel_rfl))
  f244 := Tryz.func351.trans (congrArg some (by kernel_rfl))
  f245 := Tryz.func352.trans (congrArg some (by kernel_rfl))
  f246 := Tryz.func308.trans (congrArg some (by kernel_rfl))
  f247 := Tryz.func359.trans (congrArg some (by kernel_rfl))
  f279 := Tryz.func360.trans (congrArg some (by kernel_rfl))
  f280 := Tryz.func361.trans (congrArg some (by kernel_rfl))
  f281 := Tryz.func362.trans (congrArg some (by kernel_rfl))
  f282 := Tryz.func363.trans (congrArg some (by kernel_rfl))
  f283 := Tryz.func329.trans (congrArg some (by kernel_rfl))
  f284 := Tryz.func330.trans (congrArg some (by kernel_rfl))
  f285 := Tryz.func331.trans (congrArg some (by kernel_rfl))
  f286 := Tryz.func332.trans (congrArg some (by kernel_rfl))
  f287 := Tryz.func367.trans (congrArg some (by kernel_rfl))
  f316 := Tryz.func117.trans (congrArg some (by kernel_rfl))
  f317 := Tryz.func345.trans (congrArg some (by kernel_rfl))
  f318 := Tryz.func346.trans (congrArg some (by kernel_rfl))
  f319 := Tryz.func347.trans (congrArg some (by kernel_rfl))
  f320 := Tryz.func348.trans (congrArg some (by kernel_rfl))
  f321 := Tryz.func369.trans (congrArg some (by kernel_rfl))
  f322 := Tryz.func370.trans (congrArg some (by kernel_rfl))
  f337 := Tryz.func356.trans (congrArg some (by kernel_rfl))
  f338 := Tryz.func357.trans (congrArg some (by kernel_rfl))
  t0 := Tryz.underlying0
  a0 := Tryz.isAgg0
  z0 := Tryz.sizeOf0
  v0 := Tryz.zeroValue0
  t2 := Tryz.underlying2
  a2 := Tryz.isAgg2
  z2 := Tryz.sizeOf2
  v2 := Tryz.zeroValue2
  t3 := Tryz.underlying3
  a3 := Tryz.isAgg3
  z3 := Tryz.sizeOf3
  v3 := Tryz.zeroValue3
  t4 := Tryz.underlying4
  a4 := Tryz.isAgg4
  z4 := Tryz.sizeOf4
  v4 := Tryz.zeroValue4
  t5 := Tryz.underlying5
  a5 := Tryz.isAgg5
  z5 := Tryz.sizeOf5
  v5 := Tryz.zeroValue5
  t9 := Tryz.underlying9
  a9 := Tryz.isAgg9
  z9 := Tryz.sizeOf9
  v9 := Tryz.zeroValue9
  t20 := Tryz.underlying20
  a20 := Tryz.isAgg20
  z20 := Tryz.sizeOf20
  v20 := Tryz.zeroValue20
  t21 := Tryz.underlying21
  a21 := Tryz.isAgg21
  z21 := Tryz.sizeOf21
  v21 := Tryz.zeroValue21
  t37 := Tryz.underlying94
  a37 := Tryz.isAgg94
  z37 := Tryz.sizeOf94
  v37 := Tryz.zeroValue94
  t46 := Tryz.underlying133
  a46 := Tryz.isAgg133
  z46 := Tryz.sizeOf133
  v46 := Tryz.zeroValue133
  t51 := Tryz.underlying195
  a51 := Tryz.isAgg195
  z51 := Tryz.sizeOf195
  v51 := Tryz.zeroValue195
  t53 := Tryz.underlying197
  a53 := Tryz.isAgg197
  z53 := Tryz.sizeOf197
  v53 := Tryz.zeroValue197
  t75 := Tryz.underlying161
  a75 := Tryz.isAgg161
  z75 := Tryz.sizeOf161
  v75 := Tryz.zeroValue161
  t76 := Tryz.underlying162
  a76 := Tryz.isAgg162
  z76 := Tryz.sizeOf162
  v76 := Tryz.zeroValue162
  t85 := Tryz.underlying350
  a85 := Tryz.isAgg350
  z85 := Tryz.sizeOf350
  v85 := Tryz.zeroValue350
  t127 := Tryz.underlying167
  a127 := Tryz.isAgg167
  z127 := Tryz.sizeOf167
  v127 := Tryz.zeroValue167
  t143 := Tryz.underlying366
  a143 := Tryz.isAgg366
  z143 := Tryz.sizeOf366
  v143 := Tryz.zeroValue366
  t145 := Tryz.underlying368
  a145 := Tryz.isAgg368
  z145 := Tryz.sizeOf368
  v145 := Tryz.zeroValue368
  t167 := Tryz.underlying349
  a167 := Tryz.isAgg349
  z167 := Tryz.sizeOf349
  v167 := Tryz.zeroValue349
  t168 := Tryz.underlying352
  a168 := Tryz.isAgg352
  z168 := Tryz.sizeOf352
  v168 := Tryz.zeroValue352
  t171 := Tryz.underlying331
  a171 := Tryz.isAgg331
  z171 := Tryz.sizeOf331
  v171 := Tryz.zeroValue331
  t173 := Tryz.underlying333
  a173 := Tryz.isAgg333
  z173 := Tryz.sizeOf333
  v173 := Tryz.zeroValue333
  t175 := Tryz.underlying360
  a175 := Tryz.isAgg360
  z175 := Tryz.sizeOf360
  v175 := Tryz.zeroValue360
  t210 := Tryz.underlying363
  a210 := Tryz.isAgg363
  z210 := Tryz.sizeOf363
  v210 := Tryz.zeroValue363
  t212 := Tryz.underlying342
  a212 := Tryz.isAgg342
  z212 := Tryz.sizeOf342
  v212 := Tryz.zeroValue342
  t213 := Tryz.underlying343
  a213 := Tryz.isAgg343
  z213 := Tryz.sizeOf343
  t232 := Tryz.underlying358
  a232 := Tryz.isAgg358
  z232 := Tryz.sizeOf358
  v232 := Tryz.zeroValue358
  t233 := Tryz.underlying359
  a233 := Tryz.isAgg359
  z233 := Tryz.sizeOf359
  v233 := Tryz.zeroValue359
  g15 := by kernel_rfl
  g16 := by kernel_rfl
  g17 := by kernel_rfl
  g18 := by kernel_rfl
  g19 := by kernel_rfl }
open Go.RowKit in
theorem Tryz.strconv_Atoi (s : ByteArray) (n : Int) (hl : s.size ≤ 18) (h : Lib.atoi s.data.toList = some n) (w : World) :
    Calls Tryz.prog 336 #[.string s] w fun e w' => e = .returned (.tuple #[.int .i64 n, .nilIface]) ∧ ∃ t, w' = Lib.bytesWorld w 5 t := Any.strconv_Atoi Tryz.lays172 s n hl h w
def Tryz.laysM316_ren : Go.Shelf.Ren := ⟨fun | 316 => 117 | n => n, fun | 9 => 9 | 3 => 3 | 4 => 4 | 37 => 94 | 0 => 0 | 127 => 167 | 5 => 5 | n => n, fun | n => n⟩
theorem Tryz.laysM316 : Go.Proofs.LaysM.n316 Tryz.prog Tryz.laysM316_ren := {
  mixed := by kernel_rfl
  f316 := Tryz.func117.trans (congrArg some (by kernel_rfl))
  t0 := Tryz.underlying0
  a0 := Tryz.isAgg0
  z0 := Tryz.sizeOf0
  v0 := Tryz.zeroValue0
  t3 := Tryz.underlying3
  a3 := Tryz.isAgg3
  z3 := Tryz.sizeOf3
  v3 := Tryz.zeroValue3
  t4 := Tryz.underlying4
  a4 := Tryz.isAgg4
  z4 := Tryz.sizeOf4
  v4 := Tryz.zeroValue4
  t9 := Tryz.underlying9
  a9 := Tryz.isAgg9
  z9 := Tryz.sizeOf9
  v9 := Tryz.zeroValue9
  t37 := Tryz.underlying94
  a37 := Tryz.isAgg94
  z37 := Tryz.sizeOf94
  v37 := Tryz.zeroValue94
  t127 := Tryz.underlying167
  a127 := Tryz.isAgg167
  z127 := Tryz.sizeOf167
  v127 := Tryz.zeroValue167
  t5 := Tryz.underlying5
  a5 := Tryz.isAgg5
  z5 := Tryz.sizeOf5
  v5 := Tryz.zeroValue5
  i0 := by kernel_rfl
  i3 := by kernel_rfl
  i4 := by kernel_rfl
  i5 := by kernel_rfl
  i9 := by kernel_rfl
  i37 := by kernel_rfl
  i127 := by kernel_rfl }
open Go.RowKit in
theorem Tryz.stringslite_Clone (s : ByteArray) (w : World) (hlim : s.size ≤ 281474976710656) :
    Calls Tryz.prog 117 #[.string s] w fun e w' => e = .returned (.string s) ∧ Below w.heap.size w w' := Any.stringslite_Clone Tryz.laysM316 s w hlim
def Tryz.lays217_ren : Go.Shelf.Ren := ⟨fun | 217 => 256 | 266 => 309 | n => n, fun | 9 => 9 | 5 => 5 | 3 => 3 | n => n, fun | n => n⟩
theorem Tryz.lays217 : Go.Proofs.Lays.n217 Tryz.prog Tryz.lays217_ren := {
  mixed := by kernel_rfl
  f217 := Tryz.func256.trans (congrArg some (by kernel_rfl))
  f266 := Tryz.func309.trans (congrArg some (by kernel_rfl))
  t3 := Tryz.underlying3
  a3 := Tryz.isAgg3
  z3 := Tryz.sizeOf3
  v3 := Tryz.zeroValue3
  t5 := Tryz.underlying5
  a5 := Tryz.isAgg5
  z5 := Tryz.sizeOf5
  v5 := Tryz.zeroValue5
  t9 := Tryz.underlying9
  a9 := Tryz.isAgg9
  z9 := Tryz.sizeOf9
  v9 := Tryz.zeroValue9 }
open Go.RowKit Go.Lib in
theorem Tryz.stringslite_IndexByte (s : ByteArray) (c : Int) (w : World) :
    Calls Tryz.prog 256 #[.string s, .int .u8 c] w fun e w' => e = .returned (.int .i64 (Lib.indexByte s.data.toList c.toNat.toUInt8)) ∧ w' = w := Any.stringslite_IndexByte Tryz.lays217 s c w
def Tryz.lays146_ren : Go.Shelf.Ren := ⟨fun | 146 => 70 | 221 => 118 | 268 => 188 | 138 => 110 | 143 => 112 | 195 => 180 | 197 => 113 | 218 => 181 | 219 => 183 | 260 => 184 | 217 => 256 | 225 => 258 | 224 => 259 | 267 => 260 | 266 => 309 | 314 => 310 | n => n, fun | 9 => 9 | 31 => 22 | 3 => 3 | 4 => 4 | 0 => 0 | 105 => 172 | 21 => 21 | 5 => 5 | 46 => 133 | 119 => 289 | 139 => 292 | 138 => 291 | 146 => 232 | 51 => 195 | n => n, fun | 1 => 1 | 3 => 2 | 4 => 3 | n => n⟩
theorem Tryz.lays146 : Go.Proofs.Lays.n146 Tryz.prog Tryz.lays146_ren := {
  mixed := by kernel_rfl
  f138 := Tryz.func110.trans (congrArg some (by kernel_rfl))
  f143 := Tryz.func112.trans (congrArg some (by kernel_rfl))
  f146 := Tryz.func70.trans (congrArg some (by kernel_rfl))
  f195 := Tryz.func180.trans (congrArg some (by kernel_rfl))
  f197 := Tryz.func113.trans (congrArg some (by kernel_rfl))
  f217 := Tryz.func256.trans (congrArg some (by kernel_rfl))
  f218 := Tryz.func181.trans (congrArg some (by kernel_rfl))
  f219 := Tryz.func183.trans (congrArg some (by kernel_rfl))
  f221 := Tryz.func118.trans (congrArg some (by kernel_rfl))
  f224 := Tryz.func259.trans (congrArg some (by kernel_rfl))
  f225 := Tryz.func258.trans (congrArg some (by kernel_rfl))
  f260 := Tryz.func184.trans (congrArg some (by kernel_rfl))
  f266 := Tryz.func309.trans (congrArg some (by kernel_rfl))
  f267 := Tryz.func260.trans (congrArg some (by kernel_rfl))
  f268 := Tryz.func188.trans (congrArg some (by kernel_rfl))
  f314 := Tryz.func310.trans (congrArg some (by kernel_rfl))
  t0 := Tryz.underlying0
  a0 := Tryz.isAgg0
  z0 := Tryz.sizeOf0
  v0 := Tryz.zeroValue0
  t3 := Tryz.underlying3
  a3 := Tryz.isAgg3
  z3 := Tryz.sizeOf3
  v3 := Tryz.zeroValue3
  t4 := Tryz.underlying4
  a4 := Tryz.isAgg4
  z4 := Tryz.sizeOf4
  v4 := Tryz.zeroValue4
  t5 := Tryz.underlying5
  a5 := Tryz.isAgg5
  z5 := Tryz.sizeOf5
  v5 := Tryz.zeroValue5
  t9 := Tryz.underlying9
  a9 := Tryz.isAgg9
  z9 := Tryz.sizeOf9
  v9 := Tryz.zeroValue9
  t21 := Tryz.underlying21
  a21 := Tryz.isAgg21
  z21 := Tryz.sizeOf21
  v21 := Tryz.zeroValue21
  t31 := Tryz.underlying22
  a31 := Tryz.isAgg22
  z31 := Tryz.sizeOf22
  v31 := Tryz.zeroValue22
  t46 := Tryz.underlying133
  a46 := Tryz.isAgg133
  z46 := Tryz.sizeOf133
  v46 := Tryz.zeroValue133
  t51 := Tryz.underlying195
  a51 := Tryz.isAgg195
  z51 := Tryz.sizeOf195
  v51 := Tryz.zeroValue195
  t105 := Tryz.underlying172
  a105 := Tryz.isAgg172
  z105 := Tryz.sizeOf172
  v105 := Tryz.zeroValue172
  t119 := Tryz.underlying289
  a119 := Tryz.isAgg289
  z119 := Tryz.sizeOf289
  t138 := Tryz.underlying291
  a138 := Tryz.isAgg291
  z138 := Tryz.sizeOf291
  v138 := Tryz.zeroValue291
  t139 := Tryz.underlying292
  a139 := Tryz.isAgg292
  z139 := Tryz.sizeOf292
  v139 := Tryz.zeroValue292
  t146 := Tryz.underlying232
  a146 := Tryz.isAgg232
  z146 := Tryz.sizeOf232
  v146 := Tryz.zeroValue232
  g1 := by kernel_rfl
  g3 := by kernel_rfl
  g4 := by kernel_rfl }
def Tryz.lays154_ren : Go.Shelf.Ren := ⟨fun | 154 => 63 | 138 => 110 | 165 => 111 | 143 => 112 | 166 => 101 | 197 => 113 | 169 => 46 | 195 => 180 | 218 => 181 | 240 => 173 | 241 => 182 | 219 => 183 | 260 => 184 | 276 => 249 | 277 => 257 | 217 => 256 | 225 => 258 | 224 => 259 | 267 => 260 | 266 => 309 | 314 => 310 | n => n, fun | 9 => 9 | 3 => 3 | 4 => 4 | 72 => 96 | 0 => 0 | 76 => 162 | 105 => 172 | 21 => 21 | 5 => 5 | 70 => 93 | 20 => 20 | 37 => 94 | 75 => 161 | 127 => 167 | 164 => 284 | 46 => 133 | 119 => 289 | 139 => 292 | 138 => 291 | 146 => 232 | 51 => 195 | 80 => 104 | n => n, fun | 1 => 1 | 3 => 2 | 4 => 3 | n => n⟩
theorem Tryz.lays154 : Go.Proofs.Lays.n154 Tryz.prog Tryz.lays154_ren := {
  mixed := by kernel_rfl
  f138 := Tryz.func110.trans (congrArg some (by kernel_rfl))
  f143 := Tryz.func112.trans (congrArg some (by kernel_rfl))
  f154 := Tryz.func63.trans (congrArg some (by kernel_rfl))
  f165 := Tryz.func111.trans (congrArg some (by kernel_rfl))
  f166 := Tryz.func101.trans (congrArg some (by kernel_rfl))
  f169 := Tryz.func46.trans (congrArg some (by kernel_rfl))
  f195 := Tryz.func180.trans (congrArg some (by kernel_rfl))
  f197 := Tryz.func113.trans (congrArg some (by kernel_rfl))
  f217 := Tryz.func256.trans (congrArg some (by kernel_rfl))
  f218 := Tryz.func181.trans (congrArg some (by kernel_rfl))
  f219 := Tryz.func183.trans (congrArg some (by kernel_rfl))
  f224 := Tryz.func259.trans (congrArg some (by kernel_rfl))
  f225 := Tryz.func258.trans (congrArg some (by kernel_rfl))
  f240 := Tryz.func173.trans (congrArg some (by kernel_rfl))
  f241 := Tryz.func182.trans (congrArg some (by kernel_rfl))
  f260 := Tryz.func184.trans (congrArg some (by kernel_rfl))
  f266 := Tryz.func309.trans (congrArg some (by kernel_rfl))
  f267 := Tryz.func260.trans (congrArg some (by kernel_rfl))
  f276 := Tryz.func249.trans (congrArg some (by kernel_rfl))
  f277 := Tryz.func257.trans (congrArg some (by kernel_rfl))
  f314 := Tryz.func310.trans (congrArg some (by kernel_rfl))
  t0 := Tryz.underlying0
  a0 := Tryz.isAgg0
  z0 := Tryz.sizeOf0
  v0 := Tryz.zeroValue0
  t3 := Tryz.underlying3
  a3 := Tryz.isAgg3
  z3 := Tryz.sizeOf3
  v3 := Tryz.zeroValue3
  t4 := Tryz.underlying4
  a4 := Tryz.isAgg4
  z4 := Tryz.sizeOf4
  v4 := Tryz.zeroValue4
  t5 := Tryz.underlying5
  a5 := Tryz.isAgg5
  z5 := Tryz.sizeOf5
  v5 := Tryz.zeroValue5
  t9 := Tryz.underlying9
  a9 := Tryz.isAgg9
  z9 := Tryz.sizeOf9
  v9 := Tryz.zeroValue9
  t20 := Tryz.underlying20
  a20 := Tryz.isAgg20
  z20 := Tryz.sizeOf20
  v20 := Tryz.zeroValue20
  t21 := Tryz.underlying21
  a21 := Tryz.isAgg21
  z21 := Tryz.sizeOf21
  v21 := Tryz.zeroValue21
  t37 := Tryz.underlying94
  a37 := Tryz.isAgg94
  z37 := Tryz.sizeOf94
  v37 := Tryz.zeroValue94
  t46 := Tryz.underlying133
  a46 := Tryz.isAgg133
  z46 := Tryz.sizeOf133
  v46 := Tryz.zeroValue133
  t51 := Tryz.underlying195
  a51 := Tryz.isAgg195
  z51 := Tryz.sizeOf195
  v51 := Tryz.zeroValue195
  t70 := Tryz.underlying93
  a70 := Tryz.isAgg93
  z70 := Tryz.sizeOf93
  v70 := Tryz.zeroValue93
  t72 := Tryz.underlying96
  a72 := Tryz.isAgg96
  z72 := Tryz.sizeOf96
  v72 := Tryz.zeroValue96
  t75 := Tryz.underlying161
  a75 := Tryz.isAgg161
  z75 := Tryz.sizeOf161
  v75 := Tryz.zeroValue161
  t76 := Tryz.underlying162
  a76 := Tryz.isAgg162
  z76 := Tryz.sizeOf162
  v76 := Tryz.zeroValue162
  t105 := Tryz.underlying172
  a105 := Tryz.isAgg172
  z105 := Tryz.sizeOf172
  v105 := Tryz.zeroValue172
  t119 := Tryz.underlying289
  a119 := Tryz.isAgg289
  z119 := Tryz.sizeOf289
  t127 := Tryz.underlying167
  a127 := Tryz.isAgg167
  z127 := Tryz.sizeOf167
  v127 := Tryz.zeroValue167
  t138 := Tryz.underlying291
  a138 := Tryz.isAgg291
  z138 := Tryz.sizeOf291
  v138 := Tryz.zeroValue291
  t139 := Tryz.underlying292
  a139 := Tryz.isAgg292
  z139 := Tryz.sizeOf292
  v139 := Tryz.zeroValue292
  t146 := Tryz.underlying232
  a146 := Tryz.isAgg232
  z146 := Tryz.sizeOf232
  v146 := Tryz.zeroValue232
  t164 := Tryz.underlying284
  a164 := Tryz.isAgg284
  z164 := Tryz.sizeOf284
  v164 := Tryz.zeroValue284
  g1 := by kernel_rfl
  g3 := by kernel_rfl
  g4 := by kernel_rfl }
theorem Tryz.Builder_Extra_154 : Builder.Extra Tryz.prog Tryz.lays154_ren := {
  sizeBuilder := by kernel_rfl
  liesBuilder := by kernel_rfl
  t5 := Tryz.underlying5
  a5 := Tryz.isAgg5
  z5 := Tryz.sizeOf5
  v5 := Tryz.zeroValue5
  infoByte := by kernel_rfl
  cellsByte := by kernel_rfl
  sizeByte := by kernel_rfl
  neB5 := by decide }
end Go.Proofs
namespace Go.Proofs.YtagbaimfigljiaaGreatDoor
open Go.RowKit
set_option maxRecDepth 100000

theorem decFrom_num : ∀ (l : List UInt8) (acc : Nat), (∀ b ∈ l, 48 ≤ b.toNat ∧ b.toNat ≤ 57) → ∃ m : Nat, Lib.decFrom acc l = some m ∧ (m : Int) = l.foldl (fun n c => 10 * n + ((c.toNat : Int) - 48)) (acc : Int)
  | [], acc, _ => ⟨acc, rfl, rfl⟩
  | b :: r, acc, h => by
    have hb := h b (by simp)
    obtain ⟨m, h1, h2⟩ := decFrom_num r (acc * 10 + (b.toNat - 48)) (fun c hc => h c (by simp [hc]))
    refine ⟨m, ?_, ?_⟩
    · rw [Lib.decFrom, Lib.digitVal, if_pos hb]
      exact h1
    · rw [h2, List.foldl_cons]
      congr 1
      omega

theorem num_bytes {t : ByteArray} (h : numOk t = true) : (∀ b ∈ t.data.toList, 48 ≤ b.toNat ∧ b.toNat ≤ 57) ∧ 1 ≤ t.size ∧ t.size ≤ 6 := by
  unfold numOk at h
  simp only [Bool.and_eq_true] at h
  have hs : 1 ≤ t.size ∧ t.size ≤ 6 := by
    have := h.2.1
    simp [isIn] at this
    omega
  refine ⟨fun b hb => ?_, hs⟩
  obtain ⟨j, hj, rfl⟩ := List.mem_iff_getElem.1 hb
  have hd := (allB_iff _ _).1 h.1 j hj
  have hd' := digit_bd hd
  unfold byteAt at hd'
  rw [List.getD_eq_getElem?_getD, List.getElem?_eq_getElem hj, Option.getD_some] at hd'
  omega

theorem atoi_num {t : ByteArray} (h : numOk t = true) : Lib.atoi t.data.toList = some (numVal t.data.toList) := by
  obtain ⟨hb, h1, _⟩ := num_bytes h
  have hl : t.data.toList.length = t.size := rfl
  cases e : t.data.toList with
  | nil => rw [e] at hl; simp at hl; omega
  | cons b r =>
    rw [e] at hb
    have hb0 := hb b (by simp)
    obtain ⟨m, q1, q2⟩ := decFrom_num (b :: r) 0 hb
    have n1 : (b == 45) = false := by
      rw [beq_eq_false_iff_ne]; rintro rfl; simp at hb0
    have n2 : (b == 43) = false := by
      rw [beq_eq_false_iff_ne]; rintro rfl; simp at hb0
    rw [Lib.atoi, n1, n2]
    simp only [Bool.false_eq_true, if_false, Lib.decNat, List.isEmpty_cons, q1, Option.map_some, numVal]
    rw [q2]
    rfl

theorem below_bytes (w : World) (e : TypeId) (t : ByteArray) : Below w.heap.size w (Lib.bytesWorld w e t) :=
  Lib.below_freeze ((Below.refl w.heap.size w).drew.alloc (Nat.le_refl _) _) (p := ⟨w.heap.size, _, none⟩) (Nat.le_refl _) _

set_option maxHeartbeats 1000000 in
theorem paren_back (B : Nat) (l : Toks) (j n : Nat) (x : Ex) (k nu : Int) (f s : ByteArray) (va : Value) (W : World) (g : Nat) (lb : Array Value) (br bk : Nat) (eg : ∀ args w, (callFunc g args).run Tryz.prog w = .ok (.enter g args) w) (R : Int → World → Prop)
    (hr : RdAt B l j W) (hBn : B < n) (hbr : W.cell? ⟨br, 0, none⟩ = some (.pointer (some ⟨B, 0, none⟩))) (hbk : W.cell? ⟨bk, 0, none⟩ = some (.func (.func g) #[] lb)) (hbkB : B < bk) (ht : ExCs (Fresh n W) W x k nu f s va)
    (hbad : sgn l j [41] = false → ∀ w', Moved B W w' → R 4 w')
    (hok : sgn l j [41] = true → ∀ w' v, Moved B W w' → RdAt B l (j + 1) w' → ExIs (Fresh n w') w' x v → Calls Tryz.prog g (#[v] ++ lb) w' (Ends R)) :
    Calls Tryz.prog 333 #[.agg #[.int .i64 k, .int .i64 nu, .string f, .string s, va], .pointer (some ⟨br, 0, none⟩), .pointer (some ⟨bk, 0, none⟩)] W (Ends R) := by
  obtain ⟨va1, va2, va3, rfl⟩ := ht.slice
  have hlt := rd_lt hr
  have hbrW := World.block_lt_of_cell? W _ hbr
  have hbkW := World.block_lt_of_cell? W _ hbk
  have hne1 : br < W.heap.size := hbrW
  have hal : Below W.heap.size W (W.alloc (.cells #[.int .i64 k, .int .i64 nu, .string f, .string s, .slice va1 va2 va3] 87)) := (Below.refl _ _).alloc (Nat.le_refl _) _
  have HA : Hid (Moved B W (W.alloc (.cells #[.int .i64 k, .int .i64 nu, .string f, .string s, .slice va1 va2 va3] 87))) := Moved.of_below hal (by omega)
  have HR := veil (rd_below hr hal)
  have HBad := veil hbad
  have HOk := veil hok
  have HT := veil ht
  clear hbad hok ht hr hal
  go_enter Tryz.func333, Tryz.ntmps333
  go_wp2_with fail
  refine (sign_next B l j ⟨#[41]⟩ _ HR.out).mono ?_
  rintro e w1 ⟨rfl, q1, q2⟩
  have hm1 := HA.out.trans q2
  have b0 : w1.cell? ⟨W.heap.size, 0, none⟩ = some (.int .i64 k) := (q2.cell (by omega) (by simp) 0).trans (World.cell?_alloc_at _ _ _ _ rfl)
  have b1 : w1.cell? ⟨W.heap.size, 1, none⟩ = some (.int .i64 nu) := (q2.cell (by omega) (by simp) 1).trans (World.cell?_alloc_at _ _ _ _ rfl)
  have b2 : w1.cell? ⟨W.heap.size, 2, none⟩ = some (.string f) := (q2.cell (by omega) (by simp) 2).trans (World.cell?_alloc_at _ _ _ _ rfl)
  have b3 : w1.cell? ⟨W.heap.size, 3, none⟩ = some (.string s) := (q2.cell (by omega) (by simp) 3).trans (World.cell?_alloc_at _ _ _ _ rfl)
  have b4 : w1.cell? ⟨W.heap.size, 4, none⟩ = some (.slice va1 va2 va3) := (q2.cell (by omega) (by simp) 4).trans (World.cell?_alloc_at _ _ _ _ rfl)
  have hk1 : w1.cell? ⟨bk, 0, none⟩ = some (.func (.func g) #[] lb) := (hm1.cell hbkB hbkW 0).trans hbk
  cases hs : sgn l j [41]
  · have hs' : sgn l j (ByteArray.mk #[41]).data.toList = false := hs
    have HB := veil (HBad.out hs w1 hm1)
    try rw [hs']
    clear q1 q2 hm1 HOk HBad
    go_wp2_with fail
    go_ret
    exact ⟨_, rfl, HB.out⟩
  · have hs' : sgn l j (ByteArray.mk #[41]).data.toList = true := hs
    rw [hs'] at q1
    have HK := veil (HOk.out hs w1 _ hm1 q1 ⟨_, _, _, _, _, rfl, HT.out.keep (fresh_keeps hBn hm1)⟩)
    try rw [hs']
    clear q1 q2 hm1 HOk HBad HT
    go_wp2_with fail
    refine HK.out.mono ?_
    rintro e w' ⟨y, rfl, hy⟩
    have HY := veil hy
    clear hy
    go_wp2_with fail
    go_ret
    exact ⟨_, rfl, HY.out⟩

theorem items_back (g : Nat) (lb : Array Value) (eg : ∀ args w, (callFunc g args).run Tryz.prog w = .ok (.enter g args) w) (R : Int → World → Prop) (bk : Nat) (va1 : Option Addr) (va2 va3 : Nat) (W : World)
    (hk : W.cell? ⟨bk, 0, none⟩ = some (.func (.func g) #[] lb)) (h : Calls Tryz.prog g (#[.agg #[.int .i64 6, .int .i64 0, .string ⟨#[]⟩, .string ⟨#[]⟩, .slice va1 va2 va3]] ++ lb) W (Ends R)) :
    Calls Tryz.prog 335 #[.slice va1 va2 va3, .pointer (some ⟨bk, 0, none⟩)] W (Ends R) := by
  have HK := veil h
  clear h
  go_enter Tryz.func335, Tryz.ntmps335
  go_wp2_with fail
  refine HK.out.mono ?_
  rintro e w' ⟨y, rfl, hy⟩
  have HY := veil hy
  clear hy
  go_wp2_with fail
  go_ret
  exact ⟨_, rfl, HY.out⟩

set_option maxHeartbeats 8000000 in
theorem head_next (f d : Nat) (hd1 : d < 100) (hE : ExprReads f (d + 1)) (hA : ArgsReads f d) (hC : CallReads f d) : HeadReads f d := by
  intro B l i w g lb eg R hr hbad hok
  have hlt := rd_lt hr
  have hal : Below w.heap.size w ((w.alloc (.cells #[.pointer (some ⟨B, 0, none⟩)] 179)).alloc (.cells #[.func (.func g) #[] lb] 249)) := ((Below.refl _ _).alloc (Nat.le_refl _) _).alloc (by simp) _
  have HM0 : Hid (Moved B w ((w.alloc (.cells #[.pointer (some ⟨B, 0, none⟩)] 179)).alloc (.cells #[.func (.func g) #[] lb] 249))) := Moved.of_below hal (by omega)
  have HR0 := veil (rd_below hr hal)
  have HNum : Hid (∀ j t, takeAt l j 2 = some t → numOk t = true) := fun j t ht => rd_num hr ht
  have hcr : ((w.alloc (.cells #[.pointer (some ⟨B, 0, none⟩)] 179)).alloc (.cells #[.func (.func g) #[] lb] 249)).cell? ⟨w.heap.size, 0, none⟩ = some (.pointer (some ⟨B, 0, none⟩)) := (World.cell?_alloc_old _ _ _ (by simp)).trans (World.cell?_alloc_at _ _ _ _ rfl)
  have hck : ((w.alloc (.cells #[.pointer (some ⟨B, 0, none⟩)] 179)).alloc (.cells #[.func (.func g) #[] lb] 249)).cell? ⟨w.heap.size + 1, 0, none⟩ = some (.func (.func g) #[] lb) := World.cell?_alloc_at _ _ _ _ (by simp)
  have HKeep := veil (show ∀ W, Moved B ((w.alloc (.cells #[.pointer (some ⟨B, 0, none⟩)] 179)).alloc (.cells #[.func (.func g) #[] lb] 249)) W → W.cell? ⟨w.heap.size, 0, none⟩ = some (.pointer (some ⟨B, 0, none⟩)) ∧ W.cell? ⟨w.heap.size + 1, 0, none⟩ = some (.func (.func g) #[] lb) from fun W h2 =>
    ⟨(h2.cell (by omega) (by simp; omega) 0).trans hcr, (h2.cell (by omega) (by simp) 0).trans hck⟩)
  have HBad := veil hbad
  have HOk := veil hok
  have HEg := veil eg
  have HE := veil hE
  have HA := veil hA
  have HC := veil hC
  have hef := makeFunc_run
  have HP : Hid (pHead (pEx l f) l i = if sgn l i [40] = true then (match pEx l f (i + 1) with
      | .bad e => .bad e
      | .ok x j => if sgn l j [41] = true then .ok x (j + 1) else .bad 4)
    else if sgn l i [91] = true then (match pList (pEx l f) l [93] (l.length + 1) [] (i + 1) with
      | .bad e => .bad e
      | .ok xs j => .ok (exItems xs) j)
    else match takeAt l i 2 with
      | some t => .ok (exNum t) (i + 1)
      | none => match takeAt l i 3 with
        | some t => .ok (exQuote t) (i + 1)
        | none => pCall (pEx l f) l i) := by show _ = _; unfold pHead; rfl
  clear hbad hok hr hal eg hE hA hC hcr hck
  go_enter Tryz.func316, Tryz.ntmps316
  go_wp2_with fail
  refine (sign_next B l i ⟨#[40]⟩ _ HR0.out).mono ?_
  rintro e w1 ⟨rfl, q1, q2⟩
  have HN1 := veil q2
  have HM1 := veil (HM0.out.trans q2)
  have hsz1 : w.heap.size + 2 ≤ w1.heap.size := by have := q2.below.size; simpa using this
  obtain ⟨k1, k2⟩ := HKeep.out w1 q2
  cases hs1 : sgn l i [40]
  case true =>
    have hs' : sgn l i (ByteArray.mk #[40]).data.toList = true := hs1
    rw [hs'] at q1
    rw [if_pos hs1] at HP
    have en : ((d + 1 : Nat) : Int) = (d : Int) + 1 := by omega
    have cI := HE.out B l (i + 1) w1 333 #[.pointer (some ⟨w.heap.size, 0, none⟩), .pointer (some ⟨w.heap.size + 1, 0, none⟩)] (enters_of Tryz.func333 (by kernel_rfl) rfl) R q1
      (fun e he w' hm => HBad.out e (by rw [HP.out, he]) w' (HM1.out.trans hm))
      (fun x j hx w' v hm hr' hv => by
        obtain ⟨u1, u2⟩ := HKeep.out w' (HN1.out.trans hm)
        obtain ⟨ke, ne, fe, se, ve, rfl, hce⟩ := ex_wider (n := w.heap.size) (by omega) hv
        exact paren_back B l j w.heap.size x ke ne fe se ve w' g lb _ _ HEg.out R hr' hlt u1 u2 (by omega) hce
          (fun h4 w'' hm' => HBad.out 4 (by rw [HP.out, hx]; simp [h4]) w'' ((HM1.out.trans hm).trans hm'))
          (fun h4 w'' v' hm' hr'' hv' => HOk.out x (j + 1) (by rw [HP.out, hx]; simp [h4]) w'' v' ((HM1.out.trans hm).trans hm') hr'' hv'))
    rw [en] at cI
    have HK := veil cI
    try rw [hs']
    clear q1 q2 cI HBad HOk
    go_wp2_with fail
    refine HK.out.mono ?_
    rintro e w' ⟨y, rfl, hy⟩
    have HY := veil hy
    clear hy
    go_wp2_with fail
    go_ret
    exact ⟨_, rfl, HY.out⟩
  have hs1' : sgn l i (ByteArray.mk #[40]).data.toList = false := hs1
  rw [hs1'] at q1
  rw [if_neg (by rw [hs1]; simp)] at HP
  have HR1 : Hid (RdAt B l i w1) := q1
  try rw [hs1']
  clear q1 q2
  go_wp2_with fail
  refine (sign_next B l i ⟨#[91]⟩ _ HR1.out).mono ?_
  rintro e w2 ⟨rfl, q1, q2⟩
  have HN2 := veil (HN1.out.trans q2)
  have HM2 := veil (HM1.out.trans q2)
  have hsz2 : w.heap.size + 2 ≤ w2.heap.size := by have := q2.below.size; omega
  obtain ⟨k3, k4⟩ := HKeep.out w2 HN2.out
  clear k1 k2
  cases hs2 : sgn l i [91]
  case true =>
    have hs' : sgn l i (ByteArray.mk #[91]).data.toList = true := hs2
    rw [hs'] at q1
    rw [if_pos hs2] at HP
    have HK := veil (HA.out B l (i + 1) ⟨#[93]⟩ w2 335 #[.pointer (some ⟨w.heap.size + 1, 0, none⟩)] (enters_of Tryz.func335 (by kernel_rfl) rfl) R q1
      (fun e he w' hm => HBad.out e (by rw [HP.out]; rw [show pList (pEx l f) l [93] (l.length + 1) [] (i + 1) = .bad e from he]) w' (HM2.out.trans hm))
      (fun xs j hx w' v hm hr' hv => by
        obtain ⟨va1, va2, va3, rfl⟩ := hv.slice
        obtain ⟨u1, u2⟩ := HKeep.out w' (HN2.out.trans hm)
        refine items_back g lb HEg.out R _ va1 va2 va3 w' u2 ?_
        exact HOk.out (exItems xs) j (by rw [HP.out]; rw [show pList (pEx l f) l [93] (l.length + 1) [] (i + 1) = .ok xs j from hx]) w' _ (HM2.out.trans hm) hr' ⟨_, _, _, _, _, rfl, xs, rfl, empty_le, empty_le, exSl_keep ⟨fun _ _ => rfl, fun _ hb => ⟨by have := hb.1; omega, hb.2⟩⟩ hv⟩))
    try rw [hs']
    clear q1 q2 HBad HOk
    go_wp2_with fail
    refine HK.out.mono ?_
    rintro e w' ⟨y, rfl, hy⟩
    have HY := veil hy
    clear hy
    go_wp2_with fail
    go_ret
    exact ⟨_, rfl, HY.out⟩
  have hs2' : sgn l i (ByteArray.mk #[91]).data.toList = false := hs2
  rw [hs2'] at q1
  rw [if_neg (by rw [hs2]; simp)] at HP
  have HR2 : Hid (RdAt B l i w2) := q1
  try rw [hs2']
  clear q1 q2
  go_wp2_with fail
  refine (take_any B l i 2 _ HR2.out).mono ?_
  rintro e w3 ⟨hm, ⟨ht, rfl, hr⟩ | ⟨t, ht, hsz, rfl, hr⟩⟩
  rotate_left
  · rw [ht] at HP
    have hnum := HNum.out i t ht
    obtain ⟨_, hn1, hn6⟩ := num_bytes hnum
    have HAt := veil (atoi_num hnum)
    have HN3 := veil (HN2.out.trans hm)
    have HM3 := veil (HM2.out.trans hm)
    have HR3 := veil hr
    have hlt3 := rd_lt hr
    clear hm hr ht hnum
    go_wp2_with fail
    refine (Tryz.strconv_Atoi t (numVal t.data.toList) (by omega) HAt.out _).mono ?_
    rintro e w4 ⟨rfl, t', rfl⟩
    have hb4 := below_bytes w3 5 t'
    have hm4 : Moved B w3 (Lib.bytesWorld w3 5 t') := Moved.of_below hb4 (by omega)
    obtain ⟨u1, u2⟩ := HKeep.out _ (HN3.out.trans hm4)
    have HK := veil (HOk.out _ _ HP.out (Lib.bytesWorld w3 5 t') (.agg #[.int .i64 1, .int .i64 (numVal t.data.toList), .string ⟨#[]⟩, .string ⟨#[]⟩, .slice none 0 0]) (HM3.out.trans hm4) (rd_below HR3.out hb4) ⟨_, _, _, _, _, rfl, [], rfl, empty_le, empty_le, none_sl⟩)
    have eg := HEg.out
    clear hm4 hb4 HBad HOk
    generalize Lib.bytesWorld w3 5 t' = w4 at *
    go_wp2_with fail
    refine HK.out.mono ?_
    rintro e w' ⟨y, rfl, hy⟩
    have HY := veil hy
    clear hy
    go_wp2_with fail
    go_ret
    exact ⟨_, rfl, HY.out⟩
  rw [ht] at HP
  have HN3 := veil (HN2.out.trans hm)
  have HM3 := veil (HM2.out.trans hm)
  have HR3 := veil hr
  obtain ⟨k5, k6⟩ := HKeep.out w3 HN3.out
  clear hm hr ht k3 k4
  go_wp2_with fail
  refine (take_any B l i 3 _ HR3.out).mono ?_
  rintro e w4 ⟨hm, ⟨ht, rfl, hr⟩ | ⟨t, ht, hsz, rfl, hr⟩⟩
  rotate_left
  · rw [ht] at HP
    have HM4 := veil (HM3.out.trans hm)
    obtain ⟨u1, u2⟩ := HKeep.out w4 (HN3.out.trans hm)
    have HK := veil (HOk.out _ _ HP.out w4 (.agg #[.int .i64 2, .int .i64 0, .string ⟨#[]⟩, .string t, .slice none 0 0]) HM4.out hr ⟨_, _, _, _, _, rfl, [], rfl, empty_le, hsz, none_sl⟩)
    have eg := HEg.out
    clear hm hr ht HBad HOk
    go_wp2_with fail
    refine HK.out.mono ?_
    rintro e w' ⟨y, rfl, hy⟩
    have HY := veil hy
    clear hy
    go_wp2_with fail
    go_ret
    exact ⟨_, rfl, HY.out⟩
  rw [ht] at HP
  have HM4 := veil (HM3.out.trans hm)
  obtain ⟨u1, u2⟩ := HKeep.out w4 (HN3.out.trans hm)
  have hsz4 : w.heap.size ≤ w4.heap.size := HM4.out.below.size
  have HK := veil (HC.out B l i w4 g lb HEg.out R hr (fun e he w' hm' => HBad.out e (HP.out.trans he) w' (HM4.out.trans hm')) (fun x j hx w' v hm' hr' hv => HOk.out x j (HP.out.trans hx) w' v (HM4.out.trans hm') hr' (ex_wider hsz4 hv)))
  clear hm hr ht HBad HOk k5 k6
  go_wp2_with fail
  refine HK.out.mono ?_
  rintro e w' ⟨y, rfl, hy⟩
  have HY := veil hy
  clear hy
  go_wp2_with fail
  go_ret
  exact ⟨_, rfl, HY.out⟩

end Go.Proofs.YtagbaimfigljiaaGreatDoor
