import Derived.Test.YtagbaimfigljiaaGreatDoorProg
import Derived.Test.YtagbaimfigljiaaGreatDoorJCk12
import Derived.Test.YtagbaimfigljiaaGreatDoorJCk15
import Derived.Test.YtagbaimfigljiaaGreatDoorJCk11
import Derived.Test.YtagbaimfigljiaaGreatDoorJCk28
import Derived.Test.YtagbaimfigljiaaGreatDoorJCk21
import Derived.Shelf.Strings.Builder1
import Derived.Shelf.Strings.Builder2
import Derived.Shelf.Small.Bits
import Derived.Shelf.Small.Strs
import Derived.Shelf.Strings.BuilderF
import Derived.Shelf.Strconv.Atoi
import Derived.Shelf.Strconv.Itoa0
import Derived.Shelf.Strconv.Itoa1
import Derived.Shelf.LaysM
import Derived.Shelf.Strconv.Itoa2
import Derived.Shelf.Strconv.Itoa3
import Derived.Shelf.Strconv.Clone
import Derived.Shelf.Strings.Search1
import Derived.Shelf.Strings.Search2
import Derived.Shelf.Strings.Search3
import Derived.Shelf.Strings.Count
import Derived.Shelf.Strings.Shaped
import Derived.Shelf.Sort.Plain
import Derived.Shelf.Strings.Prefix
import Derived.Shelf.Strings.Split
import Derived.Shelf.Strings.Replace
import Derived.Shelf.Bits.Mul64
import Derived.Shelf.Strings.Repeat
import Derived.Shelf.Unicode.DecodeSlow
import Derived.Shelf.Slices.CompactS
import Derived.Shelf.Slices.Cells
import Derived.Shelf.Slices.In.SortNone
import Derived.Deep.RegionWith
import Derived.Deep.Slices
namespace Go.Proofs
open Go.Shelf
def Tryz.lays169_ren : Go.Shelf.Ren := ⟨fun | 169 => 46 | n => n, fun | 70 => 93 | 9 => 9 | 0 => 0 | 72 => 96 | 37 => 94 | 127 => 167 | 3 => 3 | 5 => 5 | n => n, fun | n => n⟩
theorem Tryz.lays169 : Go.Proofs.Lays.n169 Tryz.prog Tryz.lays169_ren := {
  mixed := by kernel_rfl
  f169 := Tryz.func46.trans (congrArg some (by kernel_rfl))
  t0 := Tryz.underlying0
  a0 := Tryz.isAgg0
  z0 := Tryz.sizeOf0
  v0 := Tryz.zeroValue0
  t3 := Tryz.underlying3
  a3 := Tryz.isAgg3
  z3 := Tryz.sizeOf3
  v3 := Tryz.zeroValue3
  t9 := Tryz.underlying9
  a9 := Tryz.isAgg9
  z9 := Tryz.sizeOf9
  v9 := Tryz.zeroValue9
  t37 := Tryz.underlying94
  a37 := Tryz.isAgg94
  z37 := Tryz.sizeOf94
  v37 := Tryz.zeroValue94
  t70 := Tryz.underlying93
  a70 := Tryz.isAgg93
  z70 := Tryz.sizeOf93
  v70 := Tryz.zeroValue93
  t72 := Tryz.underlying96
  a72 := Tryz.isAgg96
  z72 := Tryz.sizeOf96
  v72 := Tryz.zeroValue96
  t127 := Tryz.underlying167
  a127 := Tryz.isAgg167
  z127 := Tryz.sizeOf167
  v127 := Tryz.zeroValue167 }
theorem Tryz.Builder_Extra_169 : Builder.Extra Tryz.prog Tryz.lays169_ren := {
  sizeBuilder := by kernel_rfl
  liesBuilder := by kernel_rfl
  t5 := Tryz.underlying5
  a5 := Tryz.isAgg5
  z5 := Tryz.sizeOf5
  v5 := Tryz.zeroValue5
  infoByte := by kernel_rfl
  cellsByte := by kernel_rfl
  sizeByte := by kernel_rfl
  neB5 := by decide }
open Go.RowKit in
theorem Tryz.Builder_String_any (B b : Nat) (l : List UInt8) (w : World) (h : Lib.IsBuilder 96 5 B b (Lib.byteCells l) w) (hBw : B ≤ w.heap.size) :
    Calls Tryz.prog 46 #[.pointer (some ⟨b, 0, none⟩)] w fun e w' => e = .returned (.string ⟨l.toArray⟩) ∧ Below B w w' := Any.Builder_String_any Tryz.lays169 Tryz.Builder_Extra_169 B b l w h hBw
def Tryz.lays105_ren : Go.Shelf.Ren := ⟨fun | 105 => 64 | 212 => 114 | 99 => 115 | 165 => 111 | 166 => 101 | 170 => 116 | 169 => 46 | 263 => 185 | 264 => 186 | 206 => 187 | 240 => 173 | 241 => 182 | 276 => 249 | 277 => 257 | n => n, fun | 9 => 9 | 3 => 3 | 4 => 4 | 20 => 20 | 0 => 0 | 46 => 133 | 109 => 174 | 5 => 5 | 72 => 96 | 76 => 162 | 51 => 195 | 146 => 232 | 53 => 197 | 148 => 234 | 70 => 93 | 37 => 94 | 75 => 161 | 127 => 167 | 164 => 284 | 80 => 104 | n => n, fun | n => n⟩
theorem Tryz.lays105 : Go.Proofs.Lays.n105 Tryz.prog Tryz.lays105_ren := {
  mixed := by kernel_rfl
  f99 := Tryz.func115.trans (congrArg some (by kernel_rfl))
  f105 := Tryz.func64.trans (congrArg some (by kernel_rfl))
  f165 := Tryz.func111.trans (congrArg some (by kernel_rfl))
  f166 := Tryz.func101.trans (congrArg some (by kernel_rfl))
  f169 := Tryz.func46.trans (congrArg some (by kernel_rfl))
  f170 := Tryz.func116.trans (congrArg some (by kernel_rfl))
  f206 := Tryz.func187.trans (congrArg some (by kernel_rfl))
  f212 := Tryz.func114.trans (congrArg some (by kernel_rfl))
  f240 := Tryz.func173.trans (congrArg some (by kernel_rfl))
  f241 := Tryz.func182.trans (congrArg some (by kernel_rfl))
  f263 := Tryz.func185.trans (congrArg some (by kernel_rfl))
  f264 := Tryz.func186.trans (congrArg some (by kernel_rfl))
  f276 := Tryz.func249.trans (congrArg some (by kernel_rfl))
  f277 := Tryz.func257.trans (congrArg some (by kernel_rfl))
  t0 := Tryz.underlying0
  a0 := Tryz.isAgg0
  z0 := Tryz.sizeOf0
  v0 := Tryz.zeroValue0
  t3 := Tryz.underlying3
  a3 := Tryz.isAgg3
  z3 := Tryz.sizeOf3
  v3 := Tryz.zeroValue3
  t4 := Tryz.underlying4
  a4 := Tryz.isAgg4
  z4 := Tryz.sizeOf4
  v4 := Tryz.zeroValue4
  t5 := Tryz.underlying5
  a5 := Tryz.isAgg5
  z5 := Tryz.sizeOf5
  v5 := Tryz.zeroValue5
  t9 := Tryz.underlying9
  a9 := Tryz.isAgg9
  z9 := Tryz.sizeOf9
  v9 := Tryz.zeroValue9
  t20 := Tryz.underlying20
  a20 := Tryz.isAgg20
  z20 := Tryz.sizeOf20
  v20 := Tryz.zeroValue20
  t37 := Tryz.underlying94
  a37 := Tryz.isAgg94
  z37 := Tryz.sizeOf94
  v37 := Tryz.zeroValue94
  t46 := Tryz.underlying133
  a46 := Tryz.isAgg133
  z46 := Tryz.sizeOf133
  v46 := Tryz.zeroValue133
  t51 := Tryz.underlying195
  a51 := Tryz.isAgg195
  z51 := Tryz.sizeOf195
  v51 := Tryz.zeroValue195
  t53 := Tryz.underlying197
  a53 := Tryz.isAgg197
  z53 := Tryz.sizeOf197
  v53 := Tryz.zeroValue197
  t70 := Tryz.underlying93
  a70 := Tryz.isAgg93
  z70 := Tryz.sizeOf93
  v70 := Tryz.zeroValue93
  t72 := Tryz.underlying96
  a72 := Tryz.isAgg96
  z72 := Tryz.sizeOf96
  v72 := Tryz.zeroValue96
  t75 := Tryz.underlying161
  a75 := Tryz.isAgg161
  z75 := Tryz.sizeOf161
  v75 := Tryz.zeroValue161
  t76 := Tryz.underlying162
  a76 := Tryz.isAgg162
  z76 := Tryz.sizeOf162
  v76 := Tryz.zeroValue162
  t109 := Tryz.underlying174
  a109 := Tryz.isAgg174
  z109 := Tryz.sizeOf174
  v109 := Tryz.zeroValue174
  t127 := Tryz.underlying167
  a127 := Tryz.isAgg167
  z127 := Tryz.sizeOf167
  v127 := Tryz.zeroValue167
  t146 := Tryz.underlying232
  a146 := Tryz.isAgg232
  z146 := Tryz.sizeOf232
  v146 := Tryz.zeroValue232
  t148 := Tryz.underlying234
  a148 := Tryz.isAgg234
  z148 := Tryz.sizeOf234
  v148 := Tryz.zeroValue234
  t164 := Tryz.underlying284
  a164 := Tryz.isAgg284
  z164 := Tryz.sizeOf284
  v164 := Tryz.zeroValue284 }
theorem Tryz.Builder_Extra_105 : Builder.Extra Tryz.prog Tryz.lays105_ren := {
  sizeBuilder := by kernel_rfl
  liesBuilder := by kernel_rfl
  t5 := Tryz.underlying5
  a5 := Tryz.isAgg5
  z5 := Tryz.sizeOf5
  v5 := Tryz.zeroValue5
  infoByte := by kernel_rfl
  cellsByte := by kernel_rfl
  sizeByte := by kernel_rfl
  neB5 := by decide }
open Go.RowKit Go.Lib in
theorem Tryz.strings_Repeat (s : ByteArray) (c : Nat) (w : World) (hc : c ≤ 9223372036854775807) (hlen : s.size * c ≤ 140737488355328) :
    Calls Tryz.prog 64 #[.string s, .int .i64 c] w fun e w' => e = .returned (.string ⟨(Lib.repeatL s.data.toList c).toArray⟩) ∧ Below w.heap.size w w' := Any.strings_Repeat Tryz.lays105 Tryz.Builder_Extra_105 s c w hc hlen
end Go.Proofs
namespace Go.Proofs.YtagbaimfigljiaaGreatDoor
open Go.RowKit
set_option maxRecDepth 100000

theorem picked_fix (n : Int) (hn : (Lit.int .i64 n).wf = true) (m : Int) (h0 : 0 < m) (h1 : m ≤ 1000000) :
    ∃ k : Nat, (k : Int) < m ∧ ∀ w : World, Calls Tryz.prog 19 #[.int .i64 n, .int .i64 m] w fun e w' => e = .returned (.int .i64 k) ∧ w = w' := by
  have hx : -9223372036854775808 ≤ n ∧ n ≤ 9223372036854775807 := by simpa [Lit.wf, IntKind.min, IntKind.max, IntKind.signed, IntKind.bits] using hn
  obtain ⟨hx0, hx1⟩ := hx
  clear hn
  by_cases hneg : n < 0
  · have e : -((n + 1).tmod m) = (((-(n + 1)) % m).toNat : Int) := by
      rw [← Int.neg_tmod, Int.tmod_eq_emod_of_nonneg (by omega), Int.toNat_of_nonneg (Int.emod_nonneg _ (by omega))]
    have hk : (((-(n + 1)) % m).toNat : Int) < m := by
      rw [Int.toNat_of_nonneg (Int.emod_nonneg _ (by omega))]
      exact Int.emod_lt_of_pos _ h0
    have HE := veilK e
    refine ⟨_, hk, fun w => ?_⟩
    clear e hk
    go_enter Tryz.func19, Tryz.ntmps19
    go_wp2
    go_ret
    exact ⟨by rw [← HE.out]; rfl, rfl⟩
  · obtain ⟨k, he⟩ := Int.eq_ofNat_of_zero_le (Int.emod_nonneg n (show m ≠ 0 by omega))
    have hk : (k : Int) < m := by rw [← he]; exact Int.emod_lt_of_pos _ h0
    have e : n.tmod m = (k : Int) := by rw [Int.tmod_eq_emod_of_nonneg (by omega), he]
    have HE := veilK e
    have HE' := veilK he
    refine ⟨k, hk, fun w => ?_⟩
    clear e he hk
    go_enter Tryz.func19, Tryz.ntmps19
    go_wp2
    go_ret
    exact ⟨by first | (rw [← HE.out]; rfl) | (rw [← HE'.out]; rfl), rfl⟩

def baseK : Nat → ByteArray
  | 0 => ⟨#[105, 110, 116]⟩
  | 1 => ⟨#[116, 101, 120, 116]⟩
  | _ => ⟨#[42]⟩
def openK (n : Nat) : ByteArray := ⟨(Lib.repeatL [91] n).toArray⟩
def shutK (n : Nat) : ByteArray := ⟨(Lib.repeatL [93] n).toArray⟩
def kText (n j : Nat) : ByteArray := openK n ++ baseK j ++ shutK n

theorem built_later {W w1 : World} {cs : Array Value} {T : TypeId} (hb : Below (W.alloc (.cells cs T)).heap.size (W.alloc (.cells cs T)) w1) (i : Nat) (v : Value) (h : cs[i]? = some v) :
    w1.cell? ⟨W.heap.size, i, none⟩ = some v := by
  rw [hb.cell (p := ⟨W.heap.size, i, none⟩) (by simp)]
  rw [World.cell?_alloc_new]
  exact h

theorem string_later {W w1 : World} {a : Addr} {t : ByteArray} (hb : Below W.heap.size W w1) (h : W.cell? a = some (.string t)) : w1.cell? a = some (.string t) :=
  (hb.cell (World.block_lt_of_cell? _ _ h)).trans h

/-- what holds of the world all along Kind's last line: the raw thing's box, and nothing older has turned. -/
def KHeld (w : World) (z : Int) (W : World) : Prop := W.cell? ⟨w.heap.size, 2, none⟩ = some (.int .i64 z) ∧ Below w.heap.size w W

theorem KHeld.next {w W W' : World} {z : Int} (h : KHeld w z W) (hb : Below W.heap.size W W') : KHeld w z W' :=
  ⟨(hb.cell (World.block_lt_of_cell? _ _ h.1)).trans h.1, h.2.trans (hb.mono h.2.size)⟩

theorem KHeld.alloc {w W : World} {z : Int} (h : KHeld w z W) (o : Obj) : KHeld w z (W.alloc o) := h.next ((Below.refl _ _).alloc (Nat.le_refl _) o)

end Go.Proofs.YtagbaimfigljiaaGreatDoor
namespace Go.Proofs.YtagbaimfigljiaaGreatDoor
open Go.RowKit
set_option maxRecDepth 100000

def dgEq (a b : Dg) : Bool := sEq a.wh b.wh && (a.code == b.code)
set_option maxHeartbeats 4000000 in
theorem equal_dg (S : Nat → Prop) (l m : List Dg) (v u : Value) (w : World) (hS : ∀ b, S b → b < w.heap.size) (hv : SlAt S (DgAt w) 2 l v) (hu : SlAt S (DgAt w) 2 m u) :
    Calls Tryz.prog 25 #[v, u] w fun e w' => e = .returned (.bool (eqL dgEq l m)) ∧ Below w.heap.size w w' := by
  have HL := veil (SlAt.len hv)
  have HM := veil (SlAt.len hu)
  have HV := veil hv
  have HU := veil hu
  obtain ⟨a, cap, rfl⟩ := hv.is
  obtain ⟨a2, cap2, rfl⟩ := hu.is
  clear hv hu
  by_cases hlm : l.length = m.length
  · have hne : ((l.length : Int) != (m.length : Int)) = false := by rw [hlm]; simp
    have hlen : l.length ≤ 9223372036854775807 := by have := HL.out; unfold maxLen at this; omega
    have HLM := veil hlm
    clear hlm
    go_enter Tryz.func25, Tryz.ntmps25
    go_wp2_with fail
    go_loopw [13] (fun i wr => ∃ j : Nat, j ≤ l.length ∧ i = .int .i64 j ∧ eqL dgEq l m = eqL dgEq (l.drop j) (m.drop j) ∧ Below w.heap.size w wr) (fun i _ => l.length - (intOf i).toNat)
    case atStart => exact ⟨0, Nat.zero_le _, rfl, rfl, Below.refl _ _⟩
    case round =>
      obtain ⟨j, hj, rfl, hq, hbl⟩ := hrel
      have HBL := veil hbl
      have HQ := veil hq
      clear hq
      by_cases hlt : j < l.length
      · have hlt' : (j : Int) < (l.length : Int) := by omega
        have hltm : j < m.length := by have := HLM.out; omega
        have hltm' : (j : Int) < (m.length : Int) := by omega
        obtain ⟨_, b, off, rfl, hb, ⟨a0, _⟩, a1⟩ := HV.out.at hlt
        obtain ⟨_, b2, off2, rfl, hb2, ⟨b0, _⟩, b1⟩ := HU.out.at hltm
        have hbk := hS b hb
        have hbk2 := hS b2 hb2
        have d0 := (hbl.cell (p := ⟨b, off + j * 2, none⟩) hbk).trans a0
        have e0 := (hbl.cell (p := ⟨b2, off2 + j * 2, none⟩) hbk2).trans b0
        have d1 := (hbl.cell (p := ⟨b, off + j * 2 + 1, none⟩) hbk).trans a1
        have e1 := (hbl.cell (p := ⟨b2, off2 + j * 2 + 1, none⟩) hbk2).trans b1
        have HD : Hid (Below w.heap.size w wr.drew) := HBL.out.drew
        have HS : Hid (eqL dgEq l m = (((l[j].wh.toList == m[j].wh.toList) && (l[j].code == m[j].code)) && eqL dgEq (l.drop (j + 1)) (m.drop (j + 1)))) := HQ.out.trans (eqL_step hlt hltm)
        clear a0 b0 a1 b1 HV HU hbl HL HM
        generalize l[j].wh = x at *
        generalize m[j].wh = y at *
        generalize l[j].code = x' at *
        generalize m[j].code = y' at *
        cases hxy : (x.toList == y.toList) with
        | true =>
          cases hxy' : (x' == y') with
          | true =>
            go_wp2_with fail
            go_region
            all_goals
              go_wp2_with fail
              exact ⟨⟨j + 1, by omega, by go_num, by rw [HS.out, hxy, hxy']; rfl, HD.out⟩, by simp [intOf]; omega⟩
          | false =>
            go_wp2_with fail
            go_region
            all_goals
              go_wp2_with fail
              go_ret
              exact ⟨by rw [HS.out, hxy, hxy']; rfl, HD.out⟩
        | false =>
          go_wp2_with fail
          go_region
          all_goals
            go_wp2_with fail
            go_ret
            exact ⟨by rw [HS.out, hxy]; rfl, HD.out⟩
      · have hnl : ¬ (j : Int) < (l.length : Int) := by omega
        have HE : Hid (eqL dgEq l m = true) := HQ.out.trans (eqL_end (by omega) (by have := HLM.out; omega))
        clear HV HU hbl
        go_wp2_with fail
        go_ret
        exact ⟨by rw [HE.out]; rfl, HBL.out⟩
  · have hne : ((l.length : Int) != (m.length : Int)) = true := by simpa using fun e : (l.length : Int) = m.length => hlm (by omega)
    have HE := veil (eqL_len (p := dgEq) hlm)
    clear hlm HV HU
    go_enter Tryz.func25, Tryz.ntmps25
    go_wp2_with fail
    go_ret
    exact ⟨by rw [HE.out]; rfl, Below.refl _ _⟩


end Go.Proofs.YtagbaimfigljiaaGreatDoor
namespace Go.Proofs.YtagbaimfigljiaaGreatDoor
open Go.RowKit
set_option maxRecDepth 100000

/-- a list of bytes, cut at each line's end. -/
def splitL : List UInt8 → List (List UInt8)
  | [] => [[]]
  | c :: l => if c = 10 then [] :: splitL l else match splitL l with
    | [] => [[c]]
    | h :: t => (c :: h) :: t

theorem splitL_ne : ∀ l : List UInt8, splitL l ≠ []
  | [] => by simp [splitL]
  | c :: l => by
    unfold splitL
    split
    · simp
    · split <;> simp

/-- what is laid ahead of the first line. -/
def aheadL (p : List UInt8) (ls : List (List UInt8)) : List (List UInt8) := match ls with
  | [] => []
  | h :: t => (p ++ h) :: t

theorem splitL_free : ∀ (p l : List UInt8), (10 : UInt8) ∉ p → splitL (p ++ l) = aheadL p (splitL l)
  | [], l, _ => by
    cases h : splitL l with
    | nil => exact absurd h (splitL_ne l)
    | cons a t => simp [aheadL, h]
  | c :: p, l, hp => by
    have hc : c ≠ 10 := fun e => hp (by rw [e]; exact List.mem_cons_self)
    have ih := splitL_free p l (fun e => hp (List.mem_cons_of_mem _ e))
    rw [List.cons_append, splitL, if_neg hc, ih]
    cases h : splitL l with
    | nil => exact absurd h (splitL_ne l)
    | cons a t => rfl

theorem splitL_hit (p l : List UInt8) (hp : (10 : UInt8) ∉ p) : splitL (p ++ 10 :: l) = p :: splitL l := by
  rw [splitL_free p _ hp, splitL, if_pos rfl]
  simp [aheadL]

theorem splitL_miss (p : List UInt8) (hp : (10 : UInt8) ∉ p) : splitL p = [p] := by
  have := splitL_free p [] hp
  rw [List.append_nil] at this
  rw [this]
  simp [aheadL, splitL]

theorem lines_data (n : Nat) : ∀ s : ByteArray, s.size ≤ n → (linesOf s).map (·.data.toList) = splitL s.data.toList := by
  induction n with
  | zero =>
    intro s hs
    have h0 : s.data.toList = [] := List.length_eq_zero_iff.1 (by rw [← Lib.size_eq]; omega)
    have hi : Lib.indexB s ⟨#[10]⟩ = -1 := by
      rw [show Lib.indexB s ⟨#[10]⟩ = Lib.indexByte s.data.toList 10 from Lib.index_one _ _, h0]
      rfl
    unfold linesOf
    rw [Lib.splitB_miss _ _ _ _ hi, h0]
    simp [h0, splitL]
  | succ n ih =>
    intro s hs
    have hge := Lib.indexByte_ge s.data.toList 10
    have he : Lib.indexB s ⟨#[10]⟩ = Lib.indexByte s.data.toList 10 := Lib.index_one _ _
    by_cases hi : Lib.indexByte s.data.toList 10 = -1
    · have hm : (10 : UInt8) ∉ s.data.toList := fun h => by
        obtain ⟨k, hk⟩ := List.getElem?_of_mem h
        exact Lib.indexByte_none hi k hk
      unfold linesOf
      rw [Lib.splitB_miss _ _ _ _ (he.trans hi), splitL_miss _ hm]
      rfl
    · obtain ⟨i, ho⟩ := Int.eq_ofNat_of_zero_le (show 0 ≤ Lib.indexByte s.data.toList 10 by omega)
      obtain ⟨h1, h2⟩ := Lib.indexByte_some ho
      have hlt : i < s.data.toList.length := (List.getElem?_eq_some_iff.1 h1).1
      have hsz := Lib.size_eq s
      have hcount := Lib.countB_hit s ⟨#[10]⟩ i (Nat.le_refl _) (he.trans ho)
      have e1 : (⟨#[10]⟩ : ByteArray).size = 1 := rfl
      rw [e1] at hcount
      unfold linesOf
      rw [hcount, Nat.add_comm 1, Lib.splitB_hit _ _ _ _ i (he.trans ho), e1, List.map_cons]
      have ih' := ih (s.extract (i + 1) s.size) (by rw [ByteArray.size_extract]; omega)
      unfold linesOf at ih'
      rw [ih', Nat.add_zero]
      have hp : (10 : UInt8) ∉ s.data.toList.take i := fun h => by
        obtain ⟨k, hk⟩ := List.getElem?_of_mem h
        have hki : k < i := by
          have := (List.getElem?_eq_some_iff.1 hk).1
          rw [List.length_take] at this
          omega
        rw [List.getElem?_take_of_lt hki] at hk
        exact h2 k hki hk
      have hsplit : s.data.toList = s.data.toList.take i ++ 10 :: s.data.toList.drop (i + 1) := by
        have h3 : s.data.toList[i] = 10 := (List.getElem?_eq_some_iff.1 h1).2
        rw [← h3, ← List.drop_eq_getElem_cons hlt, List.take_append_drop]
      rw [Lib.extract_to_end, Lib.extract_data]
      conv => rhs; rw [hsplit]
      rw [splitL_hit _ _ hp]
      simp

end Go.Proofs.YtagbaimfigljiaaGreatDoor
namespace Go.Proofs.YtagbaimfigljiaaGreatDoor
open Go.RowKit
set_option maxRecDepth 100000

def tN (s : ByteArray) : Ty := .mk 4 ⟨#[]⟩ s []
def tL (t : Ty) : Ty := .mk 3 ⟨#[]⟩ ⟨#[]⟩ [t]
def tI : Ty := .mk 1 ⟨#[]⟩ ⟨#[]⟩ []
def tyK : Nat → Nat → Ty
  | 0, 0 => tI
  | 0, _ => .mk 2 ⟨#[]⟩ ⟨#[]⟩ []
  | n + 1, j => tL (tyK n j)
theorem lines_toB (s : ByteArray) : linesOf s = (splitL s.data.toList).map toB := by
  have h := lines_data s.size s (Nat.le_refl _)
  rw [← h, List.map_map]
  have : (toB ∘ fun x : ByteArray => x.data.toList) = id := funext fun x => toB_data x
  rw [this, List.map_id]
theorem kText_line : ∀ n < 4, ∀ j < 2, (10 : UInt8) ∉ (kText n j).data.toList ∧ (kText n j).size ≤ 10 := by decide +kernel

def litText (x y : ByteArray) : ByteArray := (⟨#[102, 117, 110, 99, 32, 97, 40, 41, 58, 32]⟩ : ByteArray) ++ x ++ (⟨#[32, 61, 32]⟩ : ByteArray) ++ y ++ (⟨#[10, 102, 117, 110, 99, 32, 98, 40, 41, 58, 32, 91]⟩ : ByteArray) ++ x ++ (⟨#[93, 32, 61, 32, 91]⟩ : ByteArray) ++ y ++ (⟨#[44, 32]⟩ : ByteArray) ++ y ++ (⟨#[93, 10, 102, 117, 110, 99, 32, 99, 40, 41, 58, 32]⟩ : ByteArray) ++ x ++ (⟨#[32, 61, 32, 40, 91]⟩ : ByteArray) ++ y ++ (⟨#[93, 41, 91, 48, 93, 10, 102, 117, 110, 99, 32, 100, 40, 112, 58, 32]⟩ : ByteArray) ++ x ++ (⟨#[41, 58, 32]⟩ : ByteArray) ++ x ++ (⟨#[32, 61, 32, 112, 32, 43, 32]⟩ : ByteArray) ++ y ++ (⟨#[10]⟩ : ByteArray)
def litOf : Nat → ByteArray
  | 0 => ⟨#[55]⟩
  | _ => ⟨#[34, 120, 34]⟩
set_option maxHeartbeats 40000000 in
theorem lit_plain : ∀ i < 2, ∀ j < 2, (chkBads (litText (baseK i) (litOf j)) []).length = (if i = j then 0 else 4) ∧ (chkBads (litText (baseK i) (litOf j)) []).all (fun d => d.code == 8) = true := by decide +kernel

end Go.Proofs.YtagbaimfigljiaaGreatDoor
namespace Go.Proofs.YtagbaimfigljiaaGreatDoor
open Go.RowKit
set_option maxRecDepth 100000

def varsText (x y : ByteArray) : ByteArray := (⟨#[102, 117, 110, 99, 32, 111, 110, 101, 60, 116, 62, 40, 112, 58, 32, 116, 41, 58, 32, 91, 116, 93, 32, 61, 32, 91, 112, 93, 10, 102, 117, 110, 99, 32, 116, 119, 111, 60, 116, 62, 40, 112, 58, 32, 116, 44, 32, 113, 58, 32, 91, 116, 93, 41, 58, 32, 116, 32, 61, 32, 113, 91, 48, 93, 10, 102, 117, 110, 99, 32, 97, 40, 112, 58, 32]⟩ : ByteArray) ++ x ++ (⟨#[41, 58, 32, 91]⟩ : ByteArray) ++ x ++ (⟨#[93, 32, 61, 32, 111, 110, 101, 40, 112, 41, 10, 102, 117, 110, 99, 32, 98, 40, 112, 58, 32]⟩ : ByteArray) ++ x ++ (⟨#[41, 58, 32]⟩ : ByteArray) ++ x ++ (⟨#[32, 61, 32, 116, 119, 111, 40, 112, 44, 32, 111, 110, 101, 40, 112, 41, 41, 10, 102, 117, 110, 99, 32, 99, 40, 112, 58, 32]⟩ : ByteArray) ++ x ++ (⟨#[44, 32, 113, 58, 32]⟩ : ByteArray) ++ y ++ (⟨#[41, 58, 32]⟩ : ByteArray) ++ x ++ (⟨#[32, 61, 32, 116, 119, 111, 40, 112, 44, 32, 111, 110, 101, 40, 113, 41, 41, 10, 102, 117, 110, 99, 32, 100, 60, 116, 62, 40, 112, 58, 32, 116, 41, 58, 32, 105, 110, 116, 32, 61, 32, 112, 10]⟩ : ByteArray)
def varsL0 : ByteArray := (⟨#[102, 117, 110, 99, 32, 111, 110, 101, 60, 116, 62, 40, 112, 58, 32, 116, 41, 58, 32, 91, 116, 93, 32, 61, 32, 91, 112, 93]⟩ : ByteArray)
def varsL1 : ByteArray := (⟨#[102, 117, 110, 99, 32, 116, 119, 111, 60, 116, 62, 40, 112, 58, 32, 116, 44, 32, 113, 58, 32, 91, 116, 93, 41, 58, 32, 116, 32, 61, 32, 113, 91, 48, 93]⟩ : ByteArray)
def varsL2 (x : ByteArray) : ByteArray := (⟨#[102, 117, 110, 99, 32, 97, 40, 112, 58, 32]⟩ : ByteArray) ++ x ++ (⟨#[41, 58, 32, 91]⟩ : ByteArray) ++ x ++ (⟨#[93, 32, 61, 32, 111, 110, 101, 40, 112, 41]⟩ : ByteArray)
def varsL3 (x : ByteArray) : ByteArray := (⟨#[102, 117, 110, 99, 32, 98, 40, 112, 58, 32]⟩ : ByteArray) ++ x ++ (⟨#[41, 58, 32]⟩ : ByteArray) ++ x ++ (⟨#[32, 61, 32, 116, 119, 111, 40, 112, 44, 32, 111, 110, 101, 40, 112, 41, 41]⟩ : ByteArray)
def varsL4 (x y : ByteArray) : ByteArray := (⟨#[102, 117, 110, 99, 32, 99, 40, 112, 58, 32]⟩ : ByteArray) ++ x ++ (⟨#[44, 32, 113, 58, 32]⟩ : ByteArray) ++ y ++ (⟨#[41, 58, 32]⟩ : ByteArray) ++ x ++ (⟨#[32, 61, 32, 116, 119, 111, 40, 112, 44, 32, 111, 110, 101, 40, 113, 41, 41]⟩ : ByteArray)
def varsL5 : ByteArray := (⟨#[102, 117, 110, 99, 32, 100, 60, 116, 62, 40, 112, 58, 32, 116, 41, 58, 32, 105, 110, 116, 32, 61, 32, 112]⟩ : ByteArray)
def varsL6 : ByteArray := (⟨#[]⟩ : ByteArray)
theorem vars_lines {x y : ByteArray} (hx : (10 : UInt8) ∉ x.data.toList) (hy : (10 : UInt8) ∉ y.data.toList) : linesOf (varsText x y) = [varsL0, varsL1, (varsL2 x), (varsL3 x), (varsL4 x y), varsL5, varsL6] := by
  have h : (varsText x y).data.toList = varsL0.data.toList ++ 10 :: (varsL1.data.toList ++ 10 :: ((varsL2 x).data.toList ++ 10 :: ((varsL3 x).data.toList ++ 10 :: ((varsL4 x y).data.toList ++ 10 :: (varsL5.data.toList ++ 10 :: (varsL6.data.toList)))))) := by simp [varsText, ByteArray.data_append, varsL0, varsL1, varsL2, varsL3, varsL4, varsL5, varsL6]
  rw [lines_toB, h, splitL_hit _ _ (by simp [varsL0]), splitL_hit _ _ (by simp [varsL1]), splitL_hit _ _ (by simp [varsL2, ByteArray.data_append, hx]), splitL_hit _ _ (by simp [varsL3, ByteArray.data_append, hx]), splitL_hit _ _ (by simp [varsL4, ByteArray.data_append, hx, hy]), splitL_hit _ _ (by simp [varsL5]), splitL_miss _ (by simp [varsL6])]
  simp only [List.map_cons, List.map_nil, toB_data]
theorem varsR0 : lineRes varsL0 = .ok (.fn ⟨⟨#[111, 110, 101]⟩, ⟨#[116]⟩, [⟨⟨#[112]⟩, (tN ⟨#[116]⟩)⟩], (tL (tN ⟨#[116]⟩)), (exItems [(exParam ⟨#[112]⟩)])⟩) := by kernel_rfl
theorem varsR1 : lineRes varsL1 = .ok (.fn ⟨⟨#[116, 119, 111]⟩, ⟨#[116]⟩, [⟨⟨#[112]⟩, (tN ⟨#[116]⟩)⟩, ⟨⟨#[113]⟩, (tL (tN ⟨#[116]⟩))⟩], (tN ⟨#[116]⟩), (exAt (exParam ⟨#[113]⟩) (exNum ⟨#[48]⟩))⟩) := by kernel_rfl
set_option maxHeartbeats 40000000 in
theorem varsR2 : ∀ n < 4, ∀ j < 2, lineRes (varsL2 (kText n j)) = .ok (.fn ⟨⟨#[97]⟩, ⟨#[]⟩, [⟨⟨#[112]⟩, (tyK n j)⟩], (tL (tyK n j)), (exCall ⟨#[]⟩ ⟨#[111, 110, 101]⟩ [(exParam ⟨#[112]⟩)])⟩) := by
  intro n hn j hj
  obtain rfl | rfl | rfl | rfl : n = 0 ∨ n = 1 ∨ n = 2 ∨ n = 3 := by omega
  all_goals obtain rfl | rfl : j = 0 ∨ j = 1 := by omega
  all_goals kernel_rfl
set_option maxHeartbeats 40000000 in
theorem varsR3 : ∀ n < 4, ∀ j < 2, lineRes (varsL3 (kText n j)) = .ok (.fn ⟨⟨#[98]⟩, ⟨#[]⟩, [⟨⟨#[112]⟩, (tyK n j)⟩], (tyK n j), (exCall ⟨#[]⟩ ⟨#[116, 119, 111]⟩ [(exParam ⟨#[112]⟩), (exCall ⟨#[]⟩ ⟨#[111, 110, 101]⟩ [(exParam ⟨#[112]⟩)])])⟩) := by
  intro n hn j hj
  obtain rfl | rfl | rfl | rfl : n = 0 ∨ n = 1 ∨ n = 2 ∨ n = 3 := by omega
  all_goals obtain rfl | rfl : j = 0 ∨ j = 1 := by omega
  all_goals kernel_rfl
set_option maxHeartbeats 40000000 in
theorem varsR4 : ∀ n < 4, ∀ j < 2, ∀ n' < 4, ∀ j' < 2, lineRes (varsL4 (kText n j) (kText n' j')) = .ok (.fn ⟨⟨#[99]⟩, ⟨#[]⟩, [⟨⟨#[112]⟩, (tyK n j)⟩, ⟨⟨#[113]⟩, (tyK n' j')⟩], (tyK n j), (exCall ⟨#[]⟩ ⟨#[116, 119, 111]⟩ [(exParam ⟨#[112]⟩), (exCall ⟨#[]⟩ ⟨#[111, 110, 101]⟩ [(exParam ⟨#[113]⟩)])])⟩) := by
  intro n hn j hj n' hn' j' hj'
  obtain rfl | rfl | rfl | rfl : n = 0 ∨ n = 1 ∨ n = 2 ∨ n = 3 := by omega
  all_goals obtain rfl | rfl : j = 0 ∨ j = 1 := by omega
  all_goals obtain rfl | rfl | rfl | rfl : n' = 0 ∨ n' = 1 ∨ n' = 2 ∨ n' = 3 := by omega
  all_goals obtain rfl | rfl : j' = 0 ∨ j' = 1 := by omega
  all_goals kernel_rfl
theorem varsR5 : lineRes varsL5 = .ok (.fn ⟨⟨#[100]⟩, ⟨#[116]⟩, [⟨⟨#[112]⟩, (tN ⟨#[116]⟩)⟩], tI, (exParam ⟨#[112]⟩)⟩) := by kernel_rfl
theorem varsR6 : lineRes varsL6 = .ok (.none) := by kernel_rfl
def varsMo (tx ty : Ty) : Mo := ⟨[], [], [⟨⟨#[111, 110, 101]⟩, ⟨#[116]⟩, [⟨⟨#[112]⟩, (tN ⟨#[116]⟩)⟩], (tL (tN ⟨#[116]⟩)), (exItems [(exParam ⟨#[112]⟩)])⟩, ⟨⟨#[116, 119, 111]⟩, ⟨#[116]⟩, [⟨⟨#[112]⟩, (tN ⟨#[116]⟩)⟩, ⟨⟨#[113]⟩, (tL (tN ⟨#[116]⟩))⟩], (tN ⟨#[116]⟩), (exAt (exParam ⟨#[113]⟩) (exNum ⟨#[48]⟩))⟩, ⟨⟨#[97]⟩, ⟨#[]⟩, [⟨⟨#[112]⟩, tx⟩], (tL tx), (exCall ⟨#[]⟩ ⟨#[111, 110, 101]⟩ [(exParam ⟨#[112]⟩)])⟩, ⟨⟨#[98]⟩, ⟨#[]⟩, [⟨⟨#[112]⟩, tx⟩], tx, (exCall ⟨#[]⟩ ⟨#[116, 119, 111]⟩ [(exParam ⟨#[112]⟩), (exCall ⟨#[]⟩ ⟨#[111, 110, 101]⟩ [(exParam ⟨#[112]⟩)])])⟩, ⟨⟨#[99]⟩, ⟨#[]⟩, [⟨⟨#[112]⟩, tx⟩, ⟨⟨#[113]⟩, ty⟩], tx, (exCall ⟨#[]⟩ ⟨#[116, 119, 111]⟩ [(exParam ⟨#[112]⟩), (exCall ⟨#[]⟩ ⟨#[111, 110, 101]⟩ [(exParam ⟨#[113]⟩)])])⟩, ⟨⟨#[100]⟩, ⟨#[116]⟩, [⟨⟨#[112]⟩, (tN ⟨#[116]⟩)⟩], tI, (exParam ⟨#[112]⟩)⟩]⟩
set_option maxHeartbeats 40000000 in
theorem vars_may : ∀ n < 4, ∀ j < 2, ∀ n' < 4, ∀ j' < 2, moFault (varsMo (tyK n j) (tyK n' j')) = 0 := by decide +kernel
theorem vars_size {x y : ByteArray} (hx : x.size ≤ 10) (hy : y.size ≤ 10) : ¬ 1500 < (varsText x y).size := by
  have e : (varsText x y).size = 75 + x.size + 4 + x.size + 21 + x.size + 3 + x.size + 28 + x.size + 5 + y.size + 3 + x.size + 43 := by simp only [varsText, ByteArray.size_append]; rfl
  omega
theorem vars_read (n : Nat) (hn : n < 4) (j : Nat) (hj : j < 2) (n' : Nat) (hn' : n' < 4) (j' : Nat) (hj' : j' < 2) : chkBads (varsText (kText n j) (kText n' j')) [] = wrongR (varsMo (tyK n j) (tyK n' j')) [] (ownR (varsMo (tyK n j) (tyK n' j')) []) := by
  obtain ⟨h1, h2⟩ := kText_line n hn j hj
  obtain ⟨h3, h4⟩ := kText_line n' hn' j' hj'
  have hz := vars_size h2 h4
  have h0 := vars_may n hn j hj n' hn' j' hj'
  have hr : readAll (linesOf (varsText (kText n j) (kText n' j'))) noMo = .ok (varsMo (tyK n j) (tyK n' j')) := by
    rw [vars_lines h1 h3]
    simp only [readAll, varsR0, varsR1, varsR2 n hn j hj, varsR3 n hn j hj, varsR4 n hn j hj n' hn' j' hj', varsR5, varsR6]
    rfl
  have he : readErr (varsText (kText n j) (kText n' j')) = 0 := by unfold readErr; rw [if_neg hz, hr]; exact h0
  have hm : readMo (varsText (kText n j) (kText n' j')) = varsMo (tyK n j) (tyK n' j') := by unfold readMo; rw [if_neg hz, hr]; exact if_pos h0
  unfold chkBads
  rw [ims_none, if_pos rfl, he, if_pos rfl, hm]
set_option maxHeartbeats 40000000 in
theorem vars_wrong : ∀ n < 4, ∀ j < 2, ∀ n' < 4, ∀ j' < 2, eqL dgEq (wrongR (varsMo (tyK n j) (tyK n' j')) [] (ownR (varsMo (tyK n j) (tyK n' j')) [])) (if n = n' ∧ j = j' then [⟨⟨#[100]⟩, 8⟩] else [⟨⟨#[99]⟩, 8⟩, ⟨⟨#[100]⟩, 8⟩]) = true := by decide +kernel
theorem vars_same : ∀ n < 4, ∀ j < 2, ∀ n' < 4, ∀ j' < 2, sEq (kText n j) (kText n' j') = decide (n = n' ∧ j = j') := by decide +kernel

end Go.Proofs.YtagbaimfigljiaaGreatDoor
namespace Go.Proofs.YtagbaimfigljiaaGreatDoor
open Go.RowKit
set_option maxRecDepth 100000

set_option maxHeartbeats 4000000 in
set_option maxRecDepth 100000 in
theorem kindOf_walk0 (x y z u : Int) (n : Nat) (o p : ByteArray) (ho : o.size ≤ 3) (hp : p.size ≤ 3)
    (hO : ∀ w : World, Calls Tryz.prog 64 #[.string ⟨#[91]⟩, .int .i64 n] w fun e w' => e = .returned (.string o) ∧ Below w.heap.size w w')
    (hP : ∀ w : World, Calls Tryz.prog 64 #[.string ⟨#[93]⟩, .int .i64 n] w fun e w' => e = .returned (.string p) ∧ Below w.heap.size w w')
    (hy : ∀ w : World, Calls Tryz.prog 19 #[.int .i64 y, .int .i64 4] w fun e w' => e = .returned (.int .i64 n) ∧ w = w')
    (hz : ∀ w : World, Calls Tryz.prog 19 #[.int .i64 z, .int .i64 3] w fun e w' => e = .returned (.int .i64 0) ∧ w = w') (w : World) :
    Calls Tryz.prog 24 #[.agg #[.int .i64 x, .int .i64 y, .int .i64 z, .int .i64 u]] w fun e w' => e = .returned (.string (o ++ baseK 0 ++ p)) ∧ Below w.heap.size w w' := by
  have HY := veilK hy
  have HZ := veilK hz
  have HO := veilK hO
  have HP := veilK hP
  have HN := veilK (fun (W W' : World) (h : KHeld w z W) (hb : Below W.heap.size W W') => KHeld.next h hb)
  have HA := veilK (fun (W : World) (ob : Obj) (h : KHeld w z W) => KHeld.alloc h ob)
  have HS0 : Hid (KHeld w z (w.alloc (.cells #[.int .i64 x, .int .i64 y, .int .i64 z, .int .i64 u] 59)).drew) :=
    ⟨by show (w.alloc _).cell? _ = _; rw [World.cell?_alloc_new]; rfl, ((Below.refl _ _).alloc (Nat.le_refl _) _).drew⟩
  have HB := veilK (fun (W : World) (h : KHeld w z W) => h.2)
  have HS1 : Hid (KHeld w z ((w.alloc (.cells #[.int .i64 x, .int .i64 y, .int .i64 z, .int .i64 u] 59)).alloc (.cells #[.string ⟨#[105, 110, 116]⟩, .string ⟨#[116, 101, 120, 116]⟩, .string ⟨#[42]⟩] 9)).drew) :=
    ⟨(HA.out _ (.cells #[.string ⟨#[105, 110, 116]⟩, .string ⟨#[116, 101, 120, 116]⟩, .string ⟨#[42]⟩] 9) HS0.out).1, ((((Below.refl _ _).alloc (Nat.le_refl _) _).alloc (by simp) _).drew)⟩
  have HD : Hid (∀ w1 : World, Below ((w.alloc (.cells #[.int .i64 x, .int .i64 y, .int .i64 z, .int .i64 u] 59)).alloc (.cells #[.string ⟨#[105, 110, 116]⟩, .string ⟨#[116, 101, 120, 116]⟩, .string ⟨#[42]⟩] 9)).drew.heap.size ((w.alloc (.cells #[.int .i64 x, .int .i64 y, .int .i64 z, .int .i64 u] 59)).alloc (.cells #[.string ⟨#[105, 110, 116]⟩, .string ⟨#[116, 101, 120, 116]⟩, .string ⟨#[42]⟩] 9)).drew w1 → w1.cell? ⟨w.heap.size + 1, 0, none⟩ = some (.string ⟨#[105, 110, 116]⟩)) := by
    intro w1 hb
    rw [hb.cell (p := ⟨w.heap.size + 1, 0, none⟩) (by simp)]
    show ((w.alloc _).alloc _).cell? _ = _
    rw [← show (w.alloc (.cells #[.int .i64 x, .int .i64 y, .int .i64 z, .int .i64 u] 59)).heap.size = w.heap.size + 1 by simp, World.cell?_alloc_new]
    rfl
  have z1 : ¬ 9223372036854775807 < o.size + 3 := by omega
  have z2 : ¬ 9223372036854775807 < o.size + 3 + p.size := by omega
  clear hy hz hO hP
  go_enter Tryz.func24, Tryz.ntmps24
  go_wp2_with fail
  refine (HY.out _).mono ?_
  rintro e w' ⟨rfl, rfl⟩
  go_wp2_with fail
  have hS0 := HS0.out
  have hS1 := HS1.out
  go_region_with (first
      | (go_at_call_of 64 (Value.string ⟨#[91]⟩); refine (HO.out _).mono ?_; rintro e w1 ⟨rfl, hb⟩; (first | (have hk := HN.out _ _ (by assumption) hb) | (have hk := HN.out _ _ (HA.out _ _ (by assumption)) hb)); have hkz := hk.1; have hkA := fun ob => (HA.out _ ob hk).1; (first | (have hq := HD.out _ hb) | (have hq := built_later hb 0 _ rfl) | (have hq := string_later hb (by assumption)) | skip))
      | (go_at_call_of 64 (Value.string ⟨#[93]⟩); refine (HP.out _).mono ?_; rintro e w1 ⟨rfl, hb⟩; (first | (have hk := HN.out _ _ (by assumption) hb) | (have hk := HN.out _ _ (HA.out _ _ (by assumption)) hb)); have hkz := hk.1; have hkA := fun ob => (HA.out _ ob hk).1; (first | (have hq := HD.out _ hb) | (have hq := built_later hb 0 _ rfl) | (have hq := string_later hb (by assumption)) | skip))
      | (go_at_call 19; refine (HZ.out _).mono ?_; rintro e w' ⟨rfl, rfl⟩))
  all_goals
    go_wp2_with fail
    go_ret
    exact ⟨rfl, by first | exact HB.out _ (by assumption) | exact HB.out _ (HA.out _ _ (by assumption))⟩

end Go.Proofs.YtagbaimfigljiaaGreatDoor
namespace Go.Proofs.YtagbaimfigljiaaGreatDoor
open Go.RowKit
set_option maxRecDepth 100000

set_option maxHeartbeats 4000000 in
set_option maxRecDepth 100000 in
theorem kindOf_walk1 (x y z u : Int) (n : Nat) (o p : ByteArray) (ho : o.size ≤ 3) (hp : p.size ≤ 3)
    (hO : ∀ w : World, Calls Tryz.prog 64 #[.string ⟨#[91]⟩, .int .i64 n] w fun e w' => e = .returned (.string o) ∧ Below w.heap.size w w')
    (hP : ∀ w : World, Calls Tryz.prog 64 #[.string ⟨#[93]⟩, .int .i64 n] w fun e w' => e = .returned (.string p) ∧ Below w.heap.size w w')
    (hy : ∀ w : World, Calls Tryz.prog 19 #[.int .i64 y, .int .i64 4] w fun e w' => e = .returned (.int .i64 n) ∧ w = w')
    (hz : ∀ w : World, Calls Tryz.prog 19 #[.int .i64 z, .int .i64 3] w fun e w' => e = .returned (.int .i64 1) ∧ w = w') (w : World) :
    Calls Tryz.prog 24 #[.agg #[.int .i64 x, .int .i64 y, .int .i64 z, .int .i64 u]] w fun e w' => e = .returned (.string (o ++ baseK 1 ++ p)) ∧ Below w.heap.size w w' := by
  have HY := veilK hy
  have HZ := veilK hz
  have HO := veilK hO
  have HP := veilK hP
  have HN := veilK (fun (W W' : World) (h : KHeld w z W) (hb : Below W.heap.size W W') => KHeld.next h hb)
  have HA := veilK (fun (W : World) (ob : Obj) (h : KHeld w z W) => KHeld.alloc h ob)
  have HS0 : Hid (KHeld w z (w.alloc (.cells #[.int .i64 x, .int .i64 y, .int .i64 z, .int .i64 u] 59)).drew) :=
    ⟨by show (w.alloc _).cell? _ = _; rw [World.cell?_alloc_new]; rfl, ((Below.refl _ _).alloc (Nat.le_refl _) _).drew⟩
  have HB := veilK (fun (W : World) (h : KHeld w z W) => h.2)
  have HS1 : Hid (KHeld w z ((w.alloc (.cells #[.int .i64 x, .int .i64 y, .int .i64 z, .int .i64 u] 59)).alloc (.cells #[.string ⟨#[105, 110, 116]⟩, .string ⟨#[116, 101, 120, 116]⟩, .string ⟨#[42]⟩] 9)).drew) :=
    ⟨(HA.out _ (.cells #[.string ⟨#[105, 110, 116]⟩, .string ⟨#[116, 101, 120, 116]⟩, .string ⟨#[42]⟩] 9) HS0.out).1, ((((Below.refl _ _).alloc (Nat.le_refl _) _).alloc (by simp) _).drew)⟩
  have HD : Hid (∀ w1 : World, Below ((w.alloc (.cells #[.int .i64 x, .int .i64 y, .int .i64 z, .int .i64 u] 59)).alloc (.cells #[.string ⟨#[105, 110, 116]⟩, .string ⟨#[116, 101, 120, 116]⟩, .string ⟨#[42]⟩] 9)).drew.heap.size ((w.alloc (.cells #[.int .i64 x, .int .i64 y, .int .i64 z, .int .i64 u] 59)).alloc (.cells #[.string ⟨#[105, 110, 116]⟩, .string ⟨#[116, 101, 120, 116]⟩, .string ⟨#[42]⟩] 9)).drew w1 → w1.cell? ⟨w.heap.size + 1, 1, none⟩ = some (.string ⟨#[116, 101, 120, 116]⟩)) := by
    intro w1 hb
    rw [hb.cell (p := ⟨w.heap.size + 1, 1, none⟩) (by simp)]
    show ((w.alloc _).alloc _).cell? _ = _
    rw [← show (w.alloc (.cells #[.int .i64 x, .int .i64 y, .int .i64 z, .int .i64 u] 59)).heap.size = w.heap.size + 1 by simp, World.cell?_alloc_new]
    rfl
  have z1 : ¬ 9223372036854775807 < o.size + 4 := by omega
  have z2 : ¬ 9223372036854775807 < o.size + 4 + p.size := by omega
  clear hy hz hO hP
  go_enter Tryz.func24, Tryz.ntmps24
  go_wp2_with fail
  refine (HY.out _).mono ?_
  rintro e w' ⟨rfl, rfl⟩
  go_wp2_with fail
  have hS0 := HS0.out
  have hS1 := HS1.out
  go_region_with (first
      | (go_at_call_of 64 (Value.string ⟨#[91]⟩); refine (HO.out _).mono ?_; rintro e w1 ⟨rfl, hb⟩; (first | (have hk := HN.out _ _ (by assumption) hb) | (have hk := HN.out _ _ (HA.out _ _ (by assumption)) hb)); have hkz := hk.1; have hkA := fun ob => (HA.out _ ob hk).1; (first | (have hq := HD.out _ hb) | (have hq := built_later hb 1 _ rfl) | (have hq := string_later hb (by assumption)) | skip))
      | (go_at_call_of 64 (Value.string ⟨#[93]⟩); refine (HP.out _).mono ?_; rintro e w1 ⟨rfl, hb⟩; (first | (have hk := HN.out _ _ (by assumption) hb) | (have hk := HN.out _ _ (HA.out _ _ (by assumption)) hb)); have hkz := hk.1; have hkA := fun ob => (HA.out _ ob hk).1; (first | (have hq := HD.out _ hb) | (have hq := built_later hb 1 _ rfl) | (have hq := string_later hb (by assumption)) | skip))
      | (go_at_call 19; refine (HZ.out _).mono ?_; rintro e w' ⟨rfl, rfl⟩))
  all_goals
    go_wp2_with fail
    go_ret
    exact ⟨rfl, by first | exact HB.out _ (by assumption) | exact HB.out _ (HA.out _ _ (by assumption))⟩

end Go.Proofs.YtagbaimfigljiaaGreatDoor
namespace Go.Proofs.YtagbaimfigljiaaGreatDoor
open Go.RowKit
set_option maxRecDepth 100000

set_option maxHeartbeats 4000000 in
set_option maxRecDepth 100000 in
theorem kindOf_walk2 (x y z u : Int) (n : Nat) (o p : ByteArray) (ho : o.size ≤ 3) (hp : p.size ≤ 3)
    (hO : ∀ w : World, Calls Tryz.prog 64 #[.string ⟨#[91]⟩, .int .i64 n] w fun e w' => e = .returned (.string o) ∧ Below w.heap.size w w')
    (hP : ∀ w : World, Calls Tryz.prog 64 #[.string ⟨#[93]⟩, .int .i64 n] w fun e w' => e = .returned (.string p) ∧ Below w.heap.size w w')
    (hy : ∀ w : World, Calls Tryz.prog 19 #[.int .i64 y, .int .i64 4] w fun e w' => e = .returned (.int .i64 n) ∧ w = w')
    (hz : ∀ w : World, Calls Tryz.prog 19 #[.int .i64 z, .int .i64 3] w fun e w' => e = .returned (.int .i64 2) ∧ w = w') (w : World) :
    Calls Tryz.prog 24 #[.agg #[.int .i64 x, .int .i64 y, .int .i64 z, .int .i64 u]] w fun e w' => e = .returned (.string (o ++ baseK 2 ++ p)) ∧ Below w.heap.size w w' := by
  have HY := veilK hy
  have HZ := veilK hz
  have HO := veilK hO
  have HP := veilK hP
  have HN := veilK (fun (W W' : World) (h : KHeld w z W) (hb : Below W.heap.size W W') => KHeld.next h hb)
  have HA := veilK (fun (W : World) (ob : Obj) (h : KHeld w z W) => KHeld.alloc h ob)
  have HS0 : Hid (KHeld w z (w.alloc (.cells #[.int .i64 x, .int .i64 y, .int .i64 z, .int .i64 u] 59)).drew) :=
    ⟨by show (w.alloc _).cell? _ = _; rw [World.cell?_alloc_new]; rfl, ((Below.refl _ _).alloc (Nat.le_refl _) _).drew⟩
  have HB := veilK (fun (W : World) (h : KHeld w z W) => h.2)
  have HS1 : Hid (KHeld w z ((w.alloc (.cells #[.int .i64 x, .int .i64 y, .int .i64 z, .int .i64 u] 59)).alloc (.cells #[.string ⟨#[105, 110, 116]⟩, .string ⟨#[116, 101, 120, 116]⟩, .string ⟨#[42]⟩] 9)).drew) :=
    ⟨(HA.out _ (.cells #[.string ⟨#[105, 110, 116]⟩, .string ⟨#[116, 101, 120, 116]⟩, .string ⟨#[42]⟩] 9) HS0.out).1, ((((Below.refl _ _).alloc (Nat.le_refl _) _).alloc (by simp) _).drew)⟩
  have HD : Hid (∀ w1 : World, Below ((w.alloc (.cells #[.int .i64 x, .int .i64 y, .int .i64 z, .int .i64 u] 59)).alloc (.cells #[.string ⟨#[105, 110, 116]⟩, .string ⟨#[116, 101, 120, 116]⟩, .string ⟨#[42]⟩] 9)).drew.heap.size ((w.alloc (.cells #[.int .i64 x, .int .i64 y, .int .i64 z, .int .i64 u] 59)).alloc (.cells #[.string ⟨#[105, 110, 116]⟩, .string ⟨#[116, 101, 120, 116]⟩, .string ⟨#[42]⟩] 9)).drew w1 → w1.cell? ⟨w.heap.size + 1, 2, none⟩ = some (.string ⟨#[42]⟩)) := by
    intro w1 hb
    rw [hb.cell (p := ⟨w.heap.size + 1, 2, none⟩) (by simp)]
    show ((w.alloc _).alloc _).cell? _ = _
    rw [← show (w.alloc (.cells #[.int .i64 x, .int .i64 y, .int .i64 z, .int .i64 u] 59)).heap.size = w.heap.size + 1 by simp, World.cell?_alloc_new]
    rfl
  have z1 : ¬ 9223372036854775807 < o.size + 1 := by omega
  have z2 : ¬ 9223372036854775807 < o.size + 1 + p.size := by omega
  clear hy hz hO hP
  go_enter Tryz.func24, Tryz.ntmps24
  go_wp2_with fail
  refine (HY.out _).mono ?_
  rintro e w' ⟨rfl, rfl⟩
  go_wp2_with fail
  have hS0 := HS0.out
  have hS1 := HS1.out
  go_region_with (first
      | (go_at_call_of 64 (Value.string ⟨#[91]⟩); refine (HO.out _).mono ?_; rintro e w1 ⟨rfl, hb⟩; (first | (have hk := HN.out _ _ (by assumption) hb) | (have hk := HN.out _ _ (HA.out _ _ (by assumption)) hb)); have hkz := hk.1; have hkA := fun ob => (HA.out _ ob hk).1; (first | (have hq := HD.out _ hb) | (have hq := built_later hb 2 _ rfl) | (have hq := string_later hb (by assumption)) | skip))
      | (go_at_call_of 64 (Value.string ⟨#[93]⟩); refine (HP.out _).mono ?_; rintro e w1 ⟨rfl, hb⟩; (first | (have hk := HN.out _ _ (by assumption) hb) | (have hk := HN.out _ _ (HA.out _ _ (by assumption)) hb)); have hkz := hk.1; have hkA := fun ob => (HA.out _ ob hk).1; (first | (have hq := HD.out _ hb) | (have hq := built_later hb 2 _ rfl) | (have hq := string_later hb (by assumption)) | skip))
      | (go_at_call 19; refine (HZ.out _).mono ?_; rintro e w' ⟨rfl, rfl⟩))
  all_goals
    go_wp2_with fail
    go_ret
    exact ⟨rfl, by first | exact HB.out _ (by assumption) | exact HB.out _ (HA.out _ _ (by assumption))⟩

end Go.Proofs.YtagbaimfigljiaaGreatDoor
namespace Go.Proofs.YtagbaimfigljiaaGreatDoor
open Go.RowKit
set_option maxRecDepth 100000

theorem rep_sizeK (b : UInt8) (n : Nat) : (⟨(Lib.repeatL [b] n).toArray⟩ : ByteArray).size = n := by
  show (Lib.repeatL [b] n).toArray.size = n
  rw [List.size_toArray]
  induction n with
  | zero => rfl
  | succ k ih => simp [Lib.repeatL] at ih ⊢; try omega

theorem kind_raw (x y z u : Int) (hy : (Lit.int .i64 y).wf = true) (hz : (Lit.int .i64 z).wf = true) :
    ∃ n j, n < 4 ∧ j < 3 ∧ ∀ w : World, Calls Tryz.prog 24 #[.agg #[.int .i64 x, .int .i64 y, .int .i64 z, .int .i64 u]] w fun e w' => e = .returned (.string (kText n j)) ∧ Below w.heap.size w w' := by
  obtain ⟨n, hn, hpy⟩ := picked_fix y hy 4 (by omega) (by omega)
  obtain ⟨j, hj, hpz⟩ := picked_fix z hz 3 (by omega) (by omega)
  have hn' : n < 4 := by omega
  have hj' : j < 3 := by omega
  refine ⟨n, j, hn', hj', fun w => ?_⟩
  have hO : ∀ w : World, Calls Tryz.prog 64 #[.string ⟨#[91]⟩, .int .i64 n] w fun e w' => e = .returned (.string (openK n)) ∧ Below w.heap.size w w' :=
    fun w => Tryz.strings_Repeat ⟨#[91]⟩ n w (by omega) (by show 1 * n ≤ _; omega)
  have hP : ∀ w : World, Calls Tryz.prog 64 #[.string ⟨#[93]⟩, .int .i64 n] w fun e w' => e = .returned (.string (shutK n)) ∧ Below w.heap.size w w' :=
    fun w => Tryz.strings_Repeat ⟨#[93]⟩ n w (by omega) (by show 1 * n ≤ _; omega)
  have so : (openK n).size ≤ 3 := by unfold openK; rw [rep_sizeK]; omega
  have sp : (shutK n).size ≤ 3 := by unfold shutK; rw [rep_sizeK]; omega
  unfold kText
  obtain rfl | rfl | rfl : j = 0 ∨ j = 1 ∨ j = 2 := by omega
  · exact kindOf_walk0 x y z u n _ _ so sp hO hP hpy hpz w
  · exact kindOf_walk1 x y z u n _ _ so sp hO hP hpy hpz w
  · exact kindOf_walk2 x y z u n _ _ so sp hO hP hpy hpz w

end Go.Proofs.YtagbaimfigljiaaGreatDoor
namespace Go.Proofs.YtagbaimfigljiaaGreatDoor
open Go.RowKit
set_option maxRecDepth 100000

set_option maxHeartbeats 4000000 in
theorem replace_neg (s new : ByteArray) (pre post : List UInt8) (hs : s.data.toList = pre ++ 42 :: post) (h1 : (42 : UInt8) ∉ pre) (h2 : (42 : UInt8) ∉ post) (hz : s.size ≤ 600) (hn : new.size ≤ 600) (hne : ([42] == new.toList) = false) (w : World) :
    Calls Tryz.prog 63 #[.string s, .string ⟨#[42]⟩, .string new, .int .i64 (-1)] w fun e w' => e = .returned (.string ⟨(pre ++ new.data.toList ++ post).toArray⟩) ∧ Below w.heap.size w w' := by
  have HC := veilK (Any.strings_Count_one (P := Tryz.prog) (ρ := Tryz.lays154_ren) { Tryz.lays154 with } s 42 w)
  have HI := veilK (fun w => Any.strings_Index_one (P := Tryz.prog) (ρ := Tryz.lays154_ren) { Tryz.lays154 with } s 42 w)
  have HC1 := veilK (count_once h1 h2)
  have HI1 := veilK (@index_once pre post h1)
  have HS := veilK hs
  have hp : pre.length < s.size := by rw [Lib.size_eq, hs, List.length_append, List.length_cons]; omega
  clear hs h1 h2
  go_enter Tryz.func63, Tryz.ntmps63
  go_wp2_with fail
  refine HC.out.mono ?_
  rintro e w1 ⟨rfl, rfl⟩
  rw [show Lib.countByte s.data.toList 42 = 1 from by rw [HS.out]; exact HC1.out]
  go_wp2_with fail
  rw [show (s.size : Int) + ((new.size : Int) - 1) = ((s.size + new.size - 1 : Nat) : Int) by omega]
  refine (Any.Builder_Grow_fresh (P := Tryz.prog) (ρ := Tryz.lays154_ren) { Tryz.lays154 with } Tryz.Builder_Extra_154 w1.heap.size w1.heap.size (s.size + new.size - 1) _ (Nat.le_refl _) (heap_alloc_new w1 _) (by simp) (by omega)).mono ?_
  rintro e w2 ⟨rfl, hb0, hb1⟩
  have H2 := veilK (Or.inr hb0 : Lib.IsBuilder (Tryz.lays154_ren.t 72) (Tryz.lays154_ren.t 5) w1.heap.size w1.heap.size (Lib.byteCells []) w2)
  have HB2 := veilK (((Below.refl w1.heap.size w1).alloc (Nat.le_refl _) _).trans hb1)
  clear hb0 hb1 HC HC1
  go_wp2_with fail
  refine wp_loop_rounds 2 ?_
  rw [rounds_succ]
  go_wp2_with fail
  refine (Any.strings_Index_one (P := Tryz.prog) (ρ := Tryz.lays154_ren) { Tryz.lays154 with } _ 42 _).mono ?_
  rintro e w3 ⟨rfl, rfl⟩
  rw [HS.out, HI1.out]
  have hlt : (pre.length : Int) < (s.size : Int) := by omega
  have hle : (pre.length : Int) ≤ (s.size : Int) := by omega
  have hle1 : (pre.length : Int) + 1 ≤ (s.size : Int) := by omega
  have h0 : (0 : Int) ≤ (pre.length : Int) := by omega
  have h01 : (0 : Int) ≤ (pre.length : Int) + 1 := by omega
  have HZ : Hid (w1.heap.size ≤ w3.heap.size) := HB2.out.size
  go_wp2_with fail
  refine (Any.Builder_WriteString (P := Tryz.prog) (ρ := Tryz.lays154_ren) { Tryz.lays154 with } Tryz.Builder_Extra_154 w1.heap.size w1.heap.size _ (s.extract 0 pre.length) _ H2.out (by simp [Lib.byteCells]; omega) HZ.out).mono ?_
  rintro e w4 ⟨rfl, h4, hb4⟩
  have H4 := veilK (Or.inr h4 : Lib.IsBuilder (Tryz.lays154_ren.t 72) (Tryz.lays154_ren.t 5) w1.heap.size w1.heap.size _ w4)
  have HB4 := veilK (HB2.out.trans hb4)
  clear h4 hb4 H2 HB2
  go_wp2_with fail
  refine (Any.Builder_WriteString (P := Tryz.prog) (ρ := Tryz.lays154_ren) { Tryz.lays154 with } Tryz.Builder_Extra_154 w1.heap.size w1.heap.size _ new _ H4.out (by rw [List.length_append, Lib.byteCells_length, Lib.strCells_length, ByteArray.size_extract]; simp; omega) HB4.out.size).mono ?_
  rintro e w5 ⟨rfl, h5, hb5⟩
  have H5 := veilK (Or.inr h5 : Lib.IsBuilder (Tryz.lays154_ren.t 72) (Tryz.lays154_ren.t 5) w1.heap.size w1.heap.size _ w5)
  have HB5 := veilK (HB4.out.trans hb5)
  clear h5 hb5 H4 HB4
  go_wp2_with fail
  rw [rounds_succ]
  go_wp2_with fail
  refine (Any.Builder_WriteString (P := Tryz.prog) (ρ := Tryz.lays154_ren) { Tryz.lays154 with } Tryz.Builder_Extra_154 w1.heap.size w1.heap.size _ (s.extract (pre.length + 1) s.size) _ H5.out (by rw [List.length_append, List.length_append, Lib.byteCells_length, Lib.strCells_length, Lib.strCells_length, ByteArray.size_extract, ByteArray.size_extract]; simp; omega) HB5.out.size).mono ?_
  rintro e w6 ⟨rfl, h6, hb6⟩
  have HX : Hid (Lib.byteCells [] ++ Lib.strCells (s.extract 0 pre.length) ++ Lib.strCells new ++ Lib.strCells (s.extract (pre.length + 1) s.size) = Lib.byteCells (pre ++ new.data.toList ++ post)) := by
    show _ = _
    rw [Lib.strCells_eq, Lib.strCells_eq, Lib.strCells_eq, ← Lib.byteCells_append, ← Lib.byteCells_append, ← Lib.byteCells_append]
    congr 1
    rw [Lib.extract_data, Lib.extract_to_end, HS.out]
    simp
  rw [HX.out] at h6
  have H6 := veilK (Or.inr h6 : Lib.IsBuilder (Tryz.lays154_ren.t 72) (Tryz.lays154_ren.t 5) w1.heap.size w1.heap.size _ w6)
  have HB6 := veilK (HB5.out.trans hb6)
  clear h6 hb6 H5 HB5 HX
  go_wp2_with fail
  refine (Any.Builder_String_any (P := Tryz.prog) (ρ := Tryz.lays154_ren) { Tryz.lays154 with } Tryz.Builder_Extra_154 w1.heap.size w1.heap.size _ w6 H6.out HB6.out.size).mono ?_
  rintro e w7 ⟨rfl, hb7⟩
  have HB7 := veilK (HB6.out.trans hb7)
  clear hb7
  go_wp2
  go_ret
  exact ⟨by rw [List.append_assoc]; rfl, HB7.out⟩

set_option maxHeartbeats 4000000 in
theorem replace_absent (s new : ByteArray) (h1 : (42 : UInt8) ∉ s.data.toList) (hne : ([42] == new.toList) = false) (w : World) :
    Calls Tryz.prog 63 #[.string s, .string ⟨#[42]⟩, .string new, .int .i64 (-1)] w fun e w' => e = .returned (.string s) ∧ Below w.heap.size w w' := by
  have HC := veilK (Any.strings_Count_one (P := Tryz.prog) (ρ := Tryz.lays154_ren) { Tryz.lays154 with } s 42 w)
  have H0 : Hid (Lib.countByte s.data.toList 42 = 0) := List.count_eq_zero_of_not_mem h1
  clear h1
  go_enter Tryz.func63, Tryz.ntmps63
  go_wp2_with fail
  refine HC.out.mono ?_
  rintro e w1 ⟨rfl, rfl⟩
  rw [H0.out]
  go_wp2_with fail
  go_ret
  exact ⟨rfl, Below.refl _ _⟩

set_option maxHeartbeats 1000000 in
theorem replaceAll_of (s new r : ByteArray) (w : World) (h : Calls Tryz.prog 63 #[.string s, .string ⟨#[42]⟩, .string new, .int .i64 (-1)] w fun e w' => e = .returned (.string r) ∧ Below w.heap.size w w') :
    Calls Tryz.prog 23 #[.string s, .string ⟨#[42]⟩, .string new] w fun e w' => e = .returned (.string r) ∧ Below w.heap.size w w' := by
  have H := veilK h
  clear h
  go_enter Tryz.func23, Tryz.ntmps23
  go_wp2_with fail
  refine H.out.mono ?_
  rintro e w1 ⟨rfl, hb⟩
  have HB := veilK hb
  clear hb
  go_wp2_with fail
  go_ret
  exact ⟨rfl, HB.out⟩

end Go.Proofs.YtagbaimfigljiaaGreatDoor
