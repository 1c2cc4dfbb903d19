import Derived.Test.YtagbaimfigljiaaGreatDoorJModuleUses14
import Derived.Deep.AppendLies
import Derived.OwnWalk
import Derived.BigQuiet
import Derived.Deep.QuietTactic
namespace Go.Proofs.YtagbaimfigljiaaGreatDoor
open Go.RowKit
set_option maxRecDepth 100000

/-- x laid where it belongs. -/
def insT (x : ByteArray) : List ByteArray → List ByteArray
  | [] => [x]
  | y :: r => if gtB y x = true then x :: y :: r else y :: insT x r
theorem insT_len (x : ByteArray) : ∀ l : List ByteArray, (insT x l).length = l.length + 1
  | [] => rfl
  | y :: r => by
    unfold insT
    split
    · rfl
    · simp only [List.length_cons, insT_len x r]
theorem insT_mem {x y : ByteArray} : ∀ {l : List ByteArray}, y ∈ insT x l → y = x ∨ y ∈ l
  | [], h => by simp [insT] at h; exact Or.inl h
  | z :: r, h => by
    unfold insT at h
    split at h
    · rcases List.mem_cons.1 h with e | e
      · exact Or.inl e
      · exact Or.inr e
    · rcases List.mem_cons.1 h with e | e
      · exact Or.inr (by rw [e]; exact List.mem_cons_self ..)
      · rcases insT_mem (l := r) e with e | e
        · exact Or.inl e
        · exact Or.inr (List.mem_cons_of_mem _ e)
def usedAt (u : List ByteArray) (k : Nat) : ByteArray := (u[k]?).getD ⟨#[]⟩
def putT (x : ByteArray) (out : List ByteArray) : List ByteArray := if hasS out x = true then out else insT x out
def usedUp (u : List ByteArray) : Nat → List ByteArray
  | 0 => []
  | k + 1 => putT (usedAt u k) (usedUp u k)
theorem usedAt_at {u : List ByteArray} {k : Nat} (h : k < u.length) : usedAt u k = u[k] := by
  unfold usedAt
  rw [List.getElem?_eq_getElem h]; rfl
theorem putT_le (x : ByteArray) (l : List ByteArray) : (putT x l).length ≤ l.length + 1 := by
  unfold putT
  split
  · omega
  · rw [insT_len]; omega
theorem usedUp_le (u : List ByteArray) : ∀ k, (usedUp u k).length ≤ k
  | 0 => Nat.le_refl _
  | k + 1 => by
    have := usedUp_le u k
    have := putT_le (usedAt u k) (usedUp u k)
    rw [usedUp]; omega
theorem usedUp_size {u : List ByteArray} (h : ∀ s ∈ u, s.size ≤ 8) : ∀ k, ∀ s ∈ usedUp u k, s.size ≤ 8
  | 0, s, hs => by cases hs
  | k + 1, s, hs => by
    rw [usedUp] at hs
    unfold putT at hs
    split at hs
    · exact usedUp_size h k s hs
    · rcases insT_mem hs with e | e
      · rw [e]
        unfold usedAt
        cases hk : u[k]? with
        | none => exact Nat.zero_le _
        | some y => exact h y (List.mem_of_getElem? hk)
      · exact usedUp_size h k s e

/-- what has been laid ahead, and what is to come. -/
def InT (x : ByteArray) (out tgt nxt : List ByteArray) (j : Nat) (done : Bool) : Prop := nxt ++ (if done = true then out.drop j else insT x (out.drop j)) = tgt
theorem InT.start (x : ByteArray) (out : List ByteArray) : InT x out (putT x out) [] 0 (hasS out x) := by
  unfold InT putT
  cases hasS out x <;> simp
theorem InT.len {x : ByteArray} {out tgt nxt : List ByteArray} {j : Nat} {done : Bool} (h : InT x out tgt nxt j done) : nxt.length ≤ tgt.length := by
  have := congrArg List.length h
  rw [List.length_append] at this
  omega
theorem InT.on {x : ByteArray} {out tgt nxt : List ByteArray} {j : Nat} (h : InT x out tgt nxt j true) (hj : j < out.length) : InT x out tgt (nxt ++ [out[j]]) (j + 1) true := by
  unfold InT at *
  rw [if_pos rfl] at *
  rw [List.append_assoc, List.singleton_append, ← List.drop_eq_getElem_cons hj]
  exact h
theorem InT.keep {x : ByteArray} {out tgt nxt : List ByteArray} {j : Nat} (h : InT x out tgt nxt j false) (hj : j < out.length) (hg : gtB out[j] x = false) : InT x out tgt (nxt ++ [out[j]]) (j + 1) false := by
  unfold InT at *
  rw [if_neg (by decide)] at *
  rw [List.drop_eq_getElem_cons hj, insT, if_neg (by rw [hg]; decide)] at h
  rw [List.append_assoc, List.singleton_append]
  exact h
theorem InT.put {x : ByteArray} {out tgt nxt : List ByteArray} {j : Nat} (h : InT x out tgt nxt j false) (hj : j < out.length) (hg : gtB out[j] x = true) : InT x out tgt (nxt ++ [x] ++ [out[j]]) (j + 1) true := by
  unfold InT at *
  rw [if_neg (by decide)] at h
  rw [if_pos rfl]
  rw [List.drop_eq_getElem_cons hj, insT, if_pos hg] at h
  rw [List.append_assoc, List.append_assoc, List.singleton_append, List.singleton_append]
  exact h
theorem InT.whole {x : ByteArray} {out tgt nxt : List ByteArray} {j : Nat} (h : InT x out tgt nxt j true) (hj : out.length ≤ j) : nxt = tgt := by
  unfold InT at h
  rw [if_pos rfl, List.drop_eq_nil_of_le hj, List.append_nil] at h
  exact h
theorem InT.last {x : ByteArray} {out tgt nxt : List ByteArray} {j : Nat} (h : InT x out tgt nxt j false) (hj : out.length ≤ j) : nxt ++ [x] = tgt := by
  unfold InT at h
  rw [if_neg (by decide), List.drop_eq_nil_of_le hj, insT] at h
  exact h

theorem ownsT_base {w : World} {B B' : Nat} {u : Value} {n : Nat} {xs : List Value} (h : w.ownsRow B' 9 1 u n xs) (hB : B ≤ B') : w.ownsRow B 9 1 u n xs := by
  refine ⟨h.1, h.2.imp_right ?_⟩
  rintro ⟨g, cap, cur, hv, hb, hh, hr⟩
  exact ⟨g, cap, cur, hv, Nat.le_trans hB hb, hh, hr⟩

set_option maxRecDepth 100000 in
set_option maxHeartbeats 8000000 in
theorem usedOf_any (m : Mo) (er : Int) (s : ByteArray) (w : World) (h24 : m.uses.length ≤ 24) (h8 : ∀ s ∈ m.uses, s.size ≤ 8)
    (HMod : Calls Tryz.prog 32 #[.string s] w fun e w' => Below w.heap.size w w' ∧ ∃ v, e = .returned (.tuple #[v, .int .i64 er]) ∧ MoIs (fun b => b < w'.heap.size) w' m v) :
    Calls Tryz.prog 10 #[.string s] w fun e w' => ∃ u, e = .returned u ∧ SlAt (fun b => b < w'.heap.size) (StrAt w') 1 (usedUp m.uses m.uses.length) u ∧ Below w.heap.size w w' := by
  have HM := veil HMod
  have HSz := veil (usedUp_size h8)
  have HLe := veil (usedUp_le m.uses)
  obtain ⟨i0, hi, hz0, hz1, hz2⟩ := info_parts str_info
  have HI0 := veil hi
  have HZ0 := veil hz0
  have HZ1 := veil hz1
  have HZ2 := veil hz2
  clear hi hz0 hz1 hz2
  clear HMod
  go_enter Tryz.func10, Tryz.ntmps10
  go_wp2_with fail
  refine HM.out.mono ?_
  rintro e w1 ⟨hb1, vm, rfl, vu, vt, vf, rfl, hu, ht, hf⟩
  obtain ⟨u1, u3, rfl⟩ := hu.is
  obtain ⟨t1, t2, t3, rfl⟩ := ht.slice
  obtain ⟨f1, f2, f3, rfl⟩ := hf.slice
  obtain ⟨w2, HW2, hs2, hb12, q0⟩ : ∃ w2, Hid (w1.alloc (.cells #[.slice u1 m.uses.length u3, .slice t1 t2 t3, .slice f1 f2 f3] 44) = w2) ∧ w2.heap.size = w1.heap.size + 1 ∧ Below w1.heap.size w1 w2 ∧ w2.cell? ⟨w1.heap.size, 0, none⟩ = some (.slice u1 m.uses.length u3) :=
    ⟨_, rfl, by simp, (Below.refl _ _).alloc (Nat.le_refl _) _, by simp [go_sem]⟩
  have HU := veil (strSl_keep (Keeps.below hb12 (fun _ h => h)) hu)
  have HB2 := veil (hb1.trans (hb12.mono hb1.size))
  have h12 : w1.heap.size < w2.heap.size := by omega
  have hw2 : w.heap.size ≤ w2.heap.size := HB2.out.size
  clear hb1 hb12 hu ht hf hs2 HM
  go_wp2_with (first | (rw [HW2.out]; clear HW2) | fail)
  go_loopw [5, 6] (fun v i wr => ∃ k : Nat, k ≤ m.uses.length ∧ i = .int .i64 k ∧ wr.ownsRow w2.heap.size 9 1 v (usedUp m.uses k).length (txVals (usedUp m.uses k)) ∧ Below w2.heap.size w2 wr) (fun _ i _ => m.uses.length - (intOf i).toNat)
  case atStart => exact ⟨0, Nat.zero_le _, rfl, World.ownsRow_nil _ _ _ _, Below.refl _ _⟩
  case round =>
    obtain ⟨k, hk, rfl, hown, hbl⟩ := hrel
    have HQ0 : Hid (∀ W, Below w2.heap.size w2 W → W.cell? ⟨w1.heap.size, 0, none⟩ = some (.slice u1 m.uses.length u3)) := fun W h => (h.cell (p := ⟨w1.heap.size, 0, none⟩) h12).trans q0
    have HOwn := veil hown
    have HBl := veil hbl
    have hsr := hbl.size
    have hLe := HLe.out k
    have hSl := tx_row hown (by unfold maxLen; omega) (fun t ht => by have := HSz.out k t ht; unfold maxLen; omega)
    have HSl := veil hSl
    clear q0
    have q1 := HQ0.out _ hbl
    clear hown hbl
    by_cases hlt : k < m.uses.length
    · have hlt' : (k : Int) < (m.uses.length : Int) := by omega
      have hk0 : (0 : Int) ≤ (k : Int) := by omega
      obtain ⟨hq, b, off, rfl, hb, a0, _⟩ := HU.out.at hlt
      clear hq
      rw [Nat.mul_one] at a0
      have hbx : b < w2.heap.size := by omega
      have HA0 : Hid (∀ W, Below w2.heap.size w2 W → W.cell? ⟨b, off + k, none⟩ = some (.string m.uses[k])) := fun W h => (h.cell (p := ⟨b, off + k, none⟩) hbx).trans a0
      have d0 := HA0.out _ HBl.out
      have HNext : Hid (usedUp m.uses (k + 1) = putT m.uses[k] (usedUp m.uses k)) := by show _ = _; rw [usedUp, usedAt_at hlt]
      have hLe1 := HLe.out (k + 1)
      generalize hout : usedUp m.uses k = out at *
      clear hout
      have HT : Hid (∀ W, Below wr.heap.size wr W → Calls Tryz.prog 33 #[u5, .string m.uses[k]] W fun e w' => e = .returned (.bool (hasS out m.uses[k])) ∧ Below W.heap.size W w') := fun W hW =>
        hasText_any (fun b => b < wr.heap.size) out m.uses[k] u5 W (fun b hb => Nat.lt_of_lt_of_le hb hW.size) (strSl_keep (Keeps.below hW (fun _ h => h)) (hSl.imp (fun b hb => hb.2) (fun _ _ _ _ _ h => h)))
      rw [HNext.out] at hLe1
      clear a0 hSl
      generalize m.uses[k] = x at *
      obtain ⟨oa, ocap, rfl⟩ := HSl.out.is
      go_wp2_with fail
      refine (HT.out _ (Below.refl _ _)).mono ?_
      rintro e w3 ⟨rfl, hb3⟩
      have HB3 := veil (HBl.out.trans (hb3.mono hsr))
      have hs3 := HB3.out.size
      have q3 := HQ0.out _ HB3.out
      have d3 := HA0.out _ HB3.out
      have HSl3 := veil (strSl_keep (S' := fun b => w2.heap.size ≤ b ∧ b < w3.heap.size) ⟨fun b hb => hb3.block b hb.2, fun b hb => ⟨hb.1, Nat.lt_of_lt_of_le hb.2 hb3.size⟩⟩ HSl.out)
      have hstart := InT.start x out
      clear hb3 q1 d0 HT HSl HOwn
      generalize htg : putT x out = tgt at *
      generalize hasS out x = d0 at *
      go_wp2_with fail
      go_loopw [7, 8, 9] (fun v dv i wz => ∃ (j : Nat) (done : Bool) (nxt : List ByteArray), j ≤ out.length ∧ i = .int .i64 j ∧ dv = .bool done ∧ wz.ownsRow w3.heap.size 9 1 v nxt.length (txVals nxt) ∧ InT x out tgt nxt j done ∧ Below w3.heap.size w3 wz) (fun _ _ i _ => out.length - (intOf i).toNat)
      case atStart => exact ⟨0, d0, [], Nat.zero_le _, rfl, rfl, World.ownsRow_nil _ _ _ _, hstart, Below.refl _ _⟩
      case round =>
        obtain ⟨j, done, nxt, hjl, rfl, rfl, hownN, hins, hbz⟩ := hrel
        have HOwnN := veil hownN
        have HIn := veil hins
        have HBz := veil hbz
        have hszz := hbz.size
        have hnl : nxt.length ≤ 25 := by have := hins.len; omega
        have HB2z := veil (HB3.out.trans (hbz.mono hs3))
        have q4 := HQ0.out _ HB2z.out
        have d4 := HA0.out _ HB2z.out
        clear hownN hins hbz hstart
        by_cases hjlt : j < out.length
        · have hjlt' : (j : Int) < (out.length : Int) := by omega
          have hj0 : (0 : Int) ≤ (j : Int) := by omega
          obtain ⟨hq, ob, ooff, rfl, ⟨hob1, hob2⟩, y0, _⟩ := HSl3.out.at hjlt
          clear hq
          rw [Nat.mul_one] at y0
          have HY : Hid (∀ W, Below w3.heap.size w3 W → W.cell? ⟨ob, ooff + j, none⟩ = some (.string out[j])) := fun W hW => (hW.cell (p := ⟨ob, ooff + j, none⟩) hob2).trans y0
          have z0 := HY.out _ HBz.out
          have HOn : Hid (done = true → InT x out tgt (nxt ++ [out[j]]) (j + 1) true) := fun h => by subst h; exact HIn.out.on hjlt
          have HKeep : Hid (done = false → gtB out[j] x = false → InT x out tgt (nxt ++ [out[j]]) (j + 1) false) := fun h hg => by subst h; exact HIn.out.keep hjlt hg
          have HPut : Hid (done = false → gtB out[j] x = true → InT x out tgt (nxt ++ [x] ++ [out[j]]) (j + 1) true) := fun h hg => by subst h; exact HIn.out.put hjlt hg
          clear y0 HIn HSl3
          generalize out[j] = y at *
          cases hdone : done with
          | true =>
            have HN := veil (HOn.out hdone)
            clear HOn HKeep HPut
            subst hdone
            go_wp2_with fail
            go_quiet (fail)
            have hownq := ownsTx_later HOwnN.out (below_drewN (Below.refl wr.heap.size wr) nq)
            have hbq := below_drewN HBz.out nq
            generalize wr.drewN nq = wq at hownq hbq ⊢
            clear HOwnN HBz HB2z hszz q4 d4 z0
            have HOwnN := veil hownq
            have HBz := veil hbq
            have hszz := hbq.size
            have HB2z := veil (HB3.out.trans (hbq.mono hs3))
            have q4 := HQ0.out _ HB2z.out
            have d4 := HA0.out _ HB2z.out
            have z0 := HY.out _ hbq
            clear hownq hbq
            have HGr5 : Hid (∀ w', (wq.alloc (.cells #[.string y] 9)).grownBy w' (Value.ownBlock u7) → Below w3.heap.size w3 w') := fun w' hg => by
              have hrow := ownsTx_at HOwnN.out
              exact (HBz.out.alloc (by omega) _).grown hg (by simp; omega) (fun q hq => hrow q hq)
            go_wp2_with (at_builtin; refine wpList_append_lies _ rfl _ _ 22 rfl w3.heap.size 9 i0 (.string ⟨#[]⟩) 1 16 Tryz.underlying22 HI0.out HZ0.out HZ1.out HZ2.out rfl (by decide) _ _ _ rfl (HOwnN.out.alloc _) ⟨wq.heap.size, 0, none⟩ 1 1 [.string y] rfl rfl (tx_new _ _) (tx_one _) (by decide) (by unfold maxLen; omega) (by omega) (by simp; omega) (wq.heap.size + 1) (by simp) ?_)
            intro g5 cap5 w5 hown5 hgrow5 hat5 hlt5
            all_goals
              have HBz5 : Hid (Below w3.heap.size w3 w5) := HGr5.out _ hgrow5
              have HO5 : Hid (w5.ownsRow w3.heap.size 9 1 (.slice (some ⟨g5, 0, none⟩) (nxt.length + 1) cap5) (nxt ++ [y]).length (txVals (nxt ++ [y]))) := by
                show w5.ownsRow _ _ _ _ _ _
                rw [tx_snoc, List.length_append]
                exact hown5
              clear hown5 hgrow5 hat5 hlt5
              go_wp2_with fail
              exact ⟨⟨j + 1, true, nxt ++ [y], by omega, by go_num, rfl, HO5.out, HN.out, HBz5.out⟩, by simp [intOf]; omega⟩
          | false =>
            subst hdone
            cases hg : gtB y x with
            | true =>
              have HN := veil (HPut.out rfl hg)
              have hg' : (!Op.bytesLess y.toList x.toList && !(y.toList == x.toList)) = true := hg
              clear HOn HKeep HPut hg
              go_wp2_with fail
              go_quiet (fail)
              have hownq := ownsTx_later HOwnN.out (below_drewN (Below.refl wr.heap.size wr) nq)
              have hbq := below_drewN HBz.out nq
              generalize wr.drewN nq = wq at hownq hbq ⊢
              clear HOwnN HBz HB2z hszz q4 d4 z0
              have HOwnN := veil hownq
              have HBz := veil hbq
              have hszz := hbq.size
              have HB2z := veil (HB3.out.trans (hbq.mono hs3))
              have q4 := HQ0.out _ HB2z.out
              have d4 := HA0.out _ HB2z.out
              have z0 := HY.out _ hbq
              clear hownq hbq
              have HGr4 : Hid (∀ w', (wq.alloc (.cells #[.string x] 9)).grownBy w' (Value.ownBlock u7) → Below w3.heap.size w3 w') := fun w' hg => by
                have hrow := ownsTx_at HOwnN.out
                exact (HBz.out.alloc (by omega) _).grown hg (by simp; omega) (fun q hq => hrow q hq)
              go_wp2_with (at_builtin; refine wpList_append_lies _ rfl _ _ 22 rfl w3.heap.size 9 i0 (.string ⟨#[]⟩) 1 16 Tryz.underlying22 HI0.out HZ0.out HZ1.out HZ2.out rfl (by decide) _ _ _ rfl (HOwnN.out.alloc _) ⟨wq.heap.size, 0, none⟩ 1 1 [.string x] rfl rfl (tx_new _ _) (tx_one _) (by decide) (by unfold maxLen; omega) (by omega) (by simp; omega) (wq.heap.size + 1) (by simp) ?_)
              intro g4 cap4 w4 hown4 hgrow4 hat4 hlt4
              all_goals
                have HBz4 : Hid (Below w3.heap.size w3 w4) := HGr4.out _ hgrow4
                have HO4' : Hid (w4.ownsRow w3.heap.size 9 1 (.slice (some ⟨g4, 0, none⟩) (nxt.length + 1) cap4) (nxt.length + 1) (txVals (nxt ++ [x]))) := by
                  show w4.ownsRow _ _ _ _ _ _
                  rw [tx_snoc]
                  exact hown4
                have hsz4 := HBz4.out.size
                have z2 := HY.out _ HBz4.out
                clear hown4 hgrow4 hat4 hlt4 z0 q4 d4
                have HGr6 : Hid (∀ w', (w4.alloc (.cells #[.string y] 9)).grownBy w' (Value.ownBlock (.slice (some ⟨g4, 0, none⟩) (nxt.length + 1) cap4)) → Below w3.heap.size w3 w') := fun w' hg => by
                  have hrow := ownsTx_at HO4'.out
                  exact (HBz4.out.alloc (by omega) _).grown hg (by simp; omega) (fun q hq => hrow q hq)
                go_wp2_with (at_builtin; refine wpList_append_lies _ rfl _ _ 22 rfl w3.heap.size 9 i0 (.string ⟨#[]⟩) 1 16 Tryz.underlying22 HI0.out HZ0.out HZ1.out HZ2.out rfl (by decide) _ _ _ rfl (HO4'.out.alloc _) ⟨w4.heap.size, 0, none⟩ 1 1 [.string y] rfl rfl (tx_new _ _) (tx_one _) (by decide) (by unfold maxLen; omega) (by omega) (by simp; omega) (w4.heap.size + 1) (by simp) ?_)
                intro g5 cap5 w5 hown5 hgrow5 hat5 hlt5
                all_goals
                  have HBz5 : Hid (Below w3.heap.size w3 w5) := HGr6.out _ hgrow5
                  have HO5 : Hid (w5.ownsRow w3.heap.size 9 1 (.slice (some ⟨g5, 0, none⟩) (nxt.length + 1 + 1) cap5) (nxt ++ [x] ++ [y]).length (txVals (nxt ++ [x] ++ [y]))) := by
                    show w5.ownsRow _ _ _ _ _ _
                    rw [tx_snoc, List.length_append, List.length_append]
                    exact hown5
                  clear hown5 hgrow5 hat5 hlt5
                  go_wp2_with fail
                  exact ⟨⟨j + 1, true, nxt ++ [x] ++ [y], by omega, by go_num, rfl, HO5.out, HN.out, HBz5.out⟩, by simp [intOf]; omega⟩
            | false =>
              have HN := veil (HKeep.out rfl hg)
              have hg' : (!Op.bytesLess y.toList x.toList && !(y.toList == x.toList)) = false := hg
              clear HOn HKeep HPut hg
              go_wp2_with fail
              go_quiet (fail)
              have hownq := ownsTx_later HOwnN.out (below_drewN (Below.refl wr.heap.size wr) nq)
              have hbq := below_drewN HBz.out nq
              generalize wr.drewN nq = wq at hownq hbq ⊢
              clear HOwnN HBz HB2z hszz q4 d4 z0
              have HOwnN := veil hownq
              have HBz := veil hbq
              have hszz := hbq.size
              have HB2z := veil (HB3.out.trans (hbq.mono hs3))
              have q4 := HQ0.out _ HB2z.out
              have d4 := HA0.out _ HB2z.out
              have z0 := HY.out _ hbq
              clear hownq hbq
              have HGr5 : Hid (∀ w', (wq.alloc (.cells #[.string y] 9)).grownBy w' (Value.ownBlock u7) → Below w3.heap.size w3 w') := fun w' hg => by
                have hrow := ownsTx_at HOwnN.out
                exact (HBz.out.alloc (by omega) _).grown hg (by simp; omega) (fun q hq => hrow q hq)
              go_wp2_with (at_builtin; refine wpList_append_lies _ rfl _ _ 22 rfl w3.heap.size 9 i0 (.string ⟨#[]⟩) 1 16 Tryz.underlying22 HI0.out HZ0.out HZ1.out HZ2.out rfl (by decide) _ _ _ rfl (HOwnN.out.alloc _) ⟨wq.heap.size, 0, none⟩ 1 1 [.string y] rfl rfl (tx_new _ _) (tx_one _) (by decide) (by unfold maxLen; omega) (by omega) (by simp; omega) (wq.heap.size + 1) (by simp) ?_)
              intro g5 cap5 w5 hown5 hgrow5 hat5 hlt5
              all_goals
                have HBz5 : Hid (Below w3.heap.size w3 w5) := HGr5.out _ hgrow5
                have HO5 : Hid (w5.ownsRow w3.heap.size 9 1 (.slice (some ⟨g5, 0, none⟩) (nxt.length + 1) cap5) (nxt ++ [y]).length (txVals (nxt ++ [y]))) := by
                  show w5.ownsRow _ _ _ _ _ _
                  rw [tx_snoc, List.length_append]
                  exact hown5
                clear hown5 hgrow5 hat5 hlt5
                go_wp2_with fail
                exact ⟨⟨j + 1, false, nxt ++ [y], by omega, by go_num, rfl, HO5.out, HN.out, HBz5.out⟩, by simp [intOf]; omega⟩
        · have hjn : ¬ (j : Int) < (out.length : Int) := by omega
          cases hdone : done with
          | true =>
            subst hdone
            have HW := veil (HIn.out.whole (by omega))
            have HO5 : Hid (wr.ownsRow w2.heap.size 9 1 u7 (usedUp m.uses (k + 1)).length (txVals (usedUp m.uses (k + 1)))) := by
              show wr.ownsRow _ _ _ _ _ _
              rw [HNext.out, ← HW.out]
              exact ownsT_base HOwnN.out (by omega)
            have HL5 := veil HB2z.out
            clear HIn HOwnN
            go_wp2_with fail
            exact ⟨⟨k + 1, by omega, by go_num, HO5.out, HL5.out⟩, by simp [intOf]; omega⟩
          | false =>
            subst hdone
            have HW := veil (HIn.out.last (by omega))
            have HGr4 : Hid (∀ w', (wr.alloc (.cells #[.string x] 9)).grownBy w' (Value.ownBlock u7) → Below w3.heap.size w3 w') := fun w' hg => by
              have hrow := ownsTx_at HOwnN.out
              exact (HBz.out.alloc (by omega) _).grown hg (by simp; omega) (fun q hq => hrow q hq)
            go_wp2_with (at_builtin; refine wpList_append_lies _ rfl _ _ 22 rfl w3.heap.size 9 i0 (.string ⟨#[]⟩) 1 16 Tryz.underlying22 HI0.out HZ0.out HZ1.out HZ2.out rfl (by decide) _ _ _ rfl (HOwnN.out.alloc _) ⟨wr.heap.size, 0, none⟩ 1 1 [.string x] rfl rfl (tx_new _ _) (tx_one _) (by decide) (by unfold maxLen; omega) (by omega) (by simp; omega) (wr.heap.size + 1) (by simp) ?_)
            intro g4 cap4 w4 hown4 hgrow4 hat4 hlt4
            all_goals
              have HBz4 : Hid (Below w3.heap.size w3 w4) := HGr4.out _ hgrow4
              have HO5 : Hid (w4.ownsRow w2.heap.size 9 1 (.slice (some ⟨g4, 0, none⟩) (nxt.length + 1) cap4) (usedUp m.uses (k + 1)).length (txVals (usedUp m.uses (k + 1)))) := by
                show w4.ownsRow _ _ _ _ _ _
                rw [HNext.out, ← HW.out, tx_snoc, List.length_append]
                exact ownsT_base hown4 (by omega)
              have HL5 := veil (HB3.out.trans (HBz4.out.mono hs3))
              clear hown4 hgrow4 hat4 hlt4
              go_wp2_with fail
              exact ⟨⟨k + 1, by omega, by go_num, HO5.out, HL5.out⟩, by simp [intOf]; omega⟩
    · have hnl : ¬ (k : Int) < (m.uses.length : Int) := by omega
      have hke : k = m.uses.length := by omega
      subst hke
      have HR := veil (HSl.out.imp (fun b hb => hb.2) (fun _ _ _ _ _ h => h))
      have HB := veil (HB2.out.trans (HBl.out.mono hw2))
      clear HSl HOwn HBl
      go_wp2_with fail
      go_ret
      exact ⟨_, rfl, HR.out, HB.out⟩

end Go.Proofs.YtagbaimfigljiaaGreatDoor
namespace Go.Proofs.YtagbaimfigljiaaGreatDoor
open Go.RowKit
set_option maxRecDepth 100000

/-- the name ahead lies in block B; what lay below it lies as it lay. -/
def Ahead (w : World) (p : ByteArray) (W : World) : Prop := Below w.heap.size w W ∧ w.heap.size < W.heap.size ∧ W.cell? ⟨w.heap.size, 0, none⟩ = some (.string p) ∧ W.frozen? ⟨w.heap.size, 0, none⟩ = false

theorem Ahead.start (w : World) : Ahead w ⟨#[]⟩ (w.alloc (.cells #[.string ⟨#[]⟩] 9)) :=
  ⟨(Below.refl _ _).alloc (Nat.le_refl _) _, by simp, by simp [go_sem], by simp [go_sem]⟩
theorem Ahead.later {w : World} {p : ByteArray} {W W' : World} (h : Ahead w p W) (hb : Below W.heap.size W W') : Ahead w p W' :=
  ⟨h.1.trans (hb.mono h.1.size), Nat.lt_of_lt_of_le h.2.1 hb.size, (hb.cell h.2.1).trans h.2.2.1, (hb.frozen h.2.1).trans h.2.2.2⟩
theorem Ahead.put {w : World} {p : ByteArray} {W : World} (h : Ahead w p W) (s : ByteArray) : Ahead w s (W.setCell ⟨w.heap.size, 0, none⟩ (.string s)) :=
  ⟨h.1.setCell (Nat.le_refl _) _, by simpa [World.setCell] using h.2.1, World.cell?_setCell_same' _ _ _ (by rw [h.2.2.1]; rfl), by rw [← h.2.2.2]; simp [go_sem]⟩

end Go.Proofs.YtagbaimfigljiaaGreatDoor
namespace Go.Proofs.YtagbaimfigljiaaGreatDoor
open Go.RowKit
set_option maxRecDepth 100000

end Go.Proofs.YtagbaimfigljiaaGreatDoor
namespace Go.Proofs.YtagbaimfigljiaaGreatDoor
open Go.RowKit
set_option maxRecDepth 100000

end Go.Proofs.YtagbaimfigljiaaGreatDoor
namespace Go.Proofs.YtagbaimfigljiaaGreatDoor
open Go.RowKit
set_option maxRecDepth 100000

theorem below_drewN {B : Nat} {a w : World} (h : Below B a w) (n : Nat) : Below B a (w.drewN n) := ⟨h.os, h.tape, h.output, h.size, h.block⟩

end Go.Proofs.YtagbaimfigljiaaGreatDoor
namespace Go.Proofs.YtagbaimfigljiaaGreatDoor
open Go.RowKit
set_option maxRecDepth 100000

def ImIs (S : Nat → Prop) (w : World) (i : Im) (v : Value) : Prop := ∃ vt vf, v = .agg #[.string i.name, .bool i.there, vt, vf] ∧ i.name.size ≤ maxLen ∧ FcCs S w i.face vt vf
theorem ImIs.keep {S S' : Nat → Prop} {w w' : World} (hk : Keeps S S' w w') {i : Im} {v : Value} (h : ImIs S w i v) : ImIs S' w' i v := by
  obtain ⟨vt, vf, rfl, h1, h2⟩ := h
  exact ⟨vt, vf, rfl, h1, h2.keep hk⟩
end Go.Proofs.YtagbaimfigljiaaGreatDoor
namespace Go.Proofs.YtagbaimfigljiaaGreatDoor
open Go.RowKit
set_option maxRecDepth 100000

end Go.Proofs.YtagbaimfigljiaaGreatDoor
namespace Go.Proofs.YtagbaimfigljiaaGreatDoor
open Go.RowKit
set_option maxRecDepth 100000

end Go.Proofs.YtagbaimfigljiaaGreatDoor
namespace Go.Proofs.YtagbaimfigljiaaGreatDoor
open Go.RowKit
set_option maxRecDepth 100000

/-- what copyFunc's region keeps. -/
def SgBox (w : World) (x y : ByteArray) (p : Value) (W : World) : Prop :=
  Below w.heap.size w W ∧ W.cell? ⟨w.heap.size, 0, none⟩ = some (.string x) ∧ W.cell? ⟨w.heap.size, 1, none⟩ = some p ∧ W.cell? ⟨w.heap.size, 2, none⟩ = some (.string y)

theorem SgBox.later {w : World} {x y : ByteArray} {p : Value} {W W' : World} (h : SgBox w x y p W) (hb : Below W.heap.size W W') : SgBox w x y p W' := by
  obtain ⟨h0, h1, h2, h3⟩ := h
  exact ⟨h0.trans (hb.mono h0.size), (hb.cell (World.block_lt_of_cell? _ _ h1)).trans h1, (hb.cell (World.block_lt_of_cell? _ _ h2)).trans h2, (hb.cell (World.block_lt_of_cell? _ _ h3)).trans h3⟩

theorem SgBox.set {w : World} {x y : ByteArray} {p : Value} {W : World} (h : SgBox w x y p W) (o : Nat) (u : Value) : SgBox w x y p (W.setCell ⟨w.heap.size + 1, o, none⟩ u) := by
  obtain ⟨h0, h1, h2, h3⟩ := h
  refine ⟨h0.setCell (by show w.heap.size ≤ w.heap.size + 1; omega) _, ?_, ?_, ?_⟩
  · rw [World.cell?_setCell_far _ _ _ _ (by show w.heap.size + 1 ≠ w.heap.size; omega)]; exact h1
  · rw [World.cell?_setCell_far _ _ _ _ (by show w.heap.size + 1 ≠ w.heap.size; omega)]; exact h2
  · rw [World.cell?_setCell_far _ _ _ _ (by show w.heap.size + 1 ≠ w.heap.size; omega)]; exact h3

end Go.Proofs.YtagbaimfigljiaaGreatDoor
namespace Go.Proofs.YtagbaimfigljiaaGreatDoor
open Go.RowKit
set_option maxRecDepth 100000

/-- what Copy's region keeps. -/
def FcBox (w : World) (p q : Value) (W : World) : Prop :=
  Below w.heap.size w W ∧ W.cell? ⟨w.heap.size, 0, none⟩ = some p ∧ W.cell? ⟨w.heap.size, 1, none⟩ = some q
theorem FcBox.later {w : World} {p q : Value} {W W' : World} (h : FcBox w p q W) (hb : Below W.heap.size W W') : FcBox w p q W' := by
  obtain ⟨h0, h1, h2⟩ := h
  exact ⟨h0.trans (hb.mono h0.size), (hb.cell (World.block_lt_of_cell? _ _ h1)).trans h1, (hb.cell (World.block_lt_of_cell? _ _ h2)).trans h2⟩
theorem FcBox.set {w : World} {p q : Value} {W : World} (h : FcBox w p q W) (o : Nat) (u : Value) : FcBox w p q (W.setCell ⟨w.heap.size + 1, o, none⟩ u) := by
  obtain ⟨h0, h1, h2⟩ := h
  refine ⟨h0.setCell (by show w.heap.size ≤ w.heap.size + 1; omega) _, ?_, ?_⟩
  · rw [World.cell?_setCell_far _ _ _ _ (by show w.heap.size + 1 ≠ w.heap.size; omega)]; exact h1
  · rw [World.cell?_setCell_far _ _ _ _ (by show w.heap.size + 1 ≠ w.heap.size; omega)]; exact h2


end Go.Proofs.YtagbaimfigljiaaGreatDoor
namespace Go.Proofs.YtagbaimfigljiaaGreatDoor
open Go.RowKit
set_option maxRecDepth 100000

/-! ### The order of texts. -/

theorem less_trans : ∀ {a b c : List UInt8}, Op.bytesLess a b = false → Op.bytesLess b c = false → Op.bytesLess a c = false
  | [], [], _, _, h => h
  | [], _ :: _, _, h, _ => by simp [Op.bytesLess] at h
  | _ :: _, _, [], _, _ => by simp [Op.bytesLess]
  | _ :: _, [], _ :: _, _, h => by simp [Op.bytesLess] at h
  | x :: xs, y :: ys, z :: zs, h1, h2 => by
    simp only [Op.bytesLess, Bool.or_eq_false_iff, decide_eq_false_iff_not, Bool.and_eq_false_iff, beq_eq_false_iff_ne] at *
    obtain ⟨h1, h1'⟩ := h1
    obtain ⟨h2, h2'⟩ := h2
    have e1 : ¬ x.toNat < y.toNat := fun h => h1 (UInt8.lt_iff_toNat_lt.2 h)
    have e2 : ¬ y.toNat < z.toNat := fun h => h2 (UInt8.lt_iff_toNat_lt.2 h)
    refine ⟨fun h => by have := UInt8.lt_iff_toNat_lt.1 h; omega, ?_⟩
    by_cases hxz : x = z
    · subst hxz
      have hxy : x = y := UInt8.toNat_inj.1 (by omega)
      subst hxy
      exact Or.inr (less_trans (h1'.resolve_left (fun h => h rfl)) (h2'.resolve_left (fun h => h rfl)))
    · exact Or.inl hxz

theorem less_eq : ∀ {a b : List UInt8}, Op.bytesLess a b = false → Op.bytesLess b a = false → a = b
  | [], [], _, _ => rfl
  | [], _ :: _, h, _ => by simp [Op.bytesLess] at h
  | _ :: _, [], _, h => by simp [Op.bytesLess] at h
  | x :: xs, y :: ys, h1, h2 => by
    simp only [Op.bytesLess, Bool.or_eq_false_iff, decide_eq_false_iff_not, Bool.and_eq_false_iff, beq_eq_false_iff_ne] at *
    obtain ⟨h1, h1'⟩ := h1
    obtain ⟨h2, h2'⟩ := h2
    have e1 : ¬ x.toNat < y.toNat := fun h => h1 (UInt8.lt_iff_toNat_lt.2 h)
    have e2 : ¬ y.toNat < x.toNat := fun h => h2 (UInt8.lt_iff_toNat_lt.2 h)
    have hxy : x = y := UInt8.toNat_inj.1 (by omega)
    subst hxy
    rw [less_eq (h1'.resolve_left (fun h => h rfl)) (h2'.resolve_left (fun h => h rfl))]

theorem gt_trans {a b c : ByteArray} (h1 : gtB a b = true) (h2 : gtB b c = true) : gtB a c = true := by
  unfold gtB at *
  simp only [Bool.and_eq_true, Bool.not_eq_true', beq_eq_false_iff_ne] at *
  refine ⟨less_trans h1.1 h2.1, fun e => ?_⟩
  rw [e] at h1
  exact h1.2 (less_eq h1.1 h2.1)
theorem gt_ne {a b : ByteArray} (h : gtB a b = true) : sEq a b = false := by
  unfold gtB at h
  simp only [Bool.and_eq_true, Bool.not_eq_true'] at h
  exact h.2

/-! ### The reference's way. -/

theorem sEq_eq {a b : ByteArray} (h : sEq a b = true) : a = b := by
  unfold sEq at h
  have h' := beq_iff_eq.1 h
  rw [Lib.toList_data, Lib.toList_data] at h'
  exact Go.WideShapes.bytes_inj h'

end Go.Proofs.YtagbaimfigljiaaGreatDoor
namespace Go.Proofs.YtagbaimfigljiaaGreatDoor
open Go.RowKit
set_option maxRecDepth 100000

end Go.Proofs.YtagbaimfigljiaaGreatDoor
