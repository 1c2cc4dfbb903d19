/- What the reference's TypesOf answers. -/
import Derived.Test.YtkdailcadcfepafGreatJAlias29
namespace Go.Proofs.YtkdailcadcfepafGreat
open Go.RowKit
set_option maxRecDepth 100000

theorem name_fault {n : ByteArray} (h : identOk n = true) : tyFault (.mk 4 ⟨#[]⟩ n []) 1 = 0 := by
  have h1 : noneOrIdent ⟨#[]⟩ = true := by rfl
  simp [tyFault, isIn, tyFits, tysFault, h, h1]

theorem name_is {S : Nat → Prop} {w : World} {n : ByteArray} (h : n.size ≤ maxLen) : TyIs S w (.mk 4 ⟨#[]⟩ n []) (.agg #[.int .i64 4, .string ⟨#[]⟩, .string n, .slice none 0 0]) :=
  ⟨4, ⟨#[]⟩, n, .slice none 0 0, rfl, [], rfl, by decide, h, none, 0, rfl, ⟨by simp, by simp⟩, Or.inl rfl⟩

theorem solve_nameR (ρ : ByteArray → ByteArray → Sol) (n : ByteArray) : solveP ρ 10 (.mk 4 ⟨#[]⟩ n []) = ρ ⟨#[]⟩ n := rfl

/-- what has been laid ahead, and what is to come. -/
def InsAt (x : Kn) (out nxt : List Kn) (j : Nat) (done : Bool) : Prop := nxt ++ (if done = true then out.drop j else insB Kn.name x (out.drop j)) = insB Kn.name x out
theorem InsAt.start (x : Kn) (out : List Kn) : InsAt x out [] 0 false := by unfold InsAt; simp
theorem InsAt.len {x : Kn} {out nxt : List Kn} {j : Nat} {done : Bool} (h : InsAt x out nxt j done) : nxt.length ≤ out.length + 1 := by
  have := congrArg List.length h
  rw [List.length_append, (insB_perm Kn.name x out).length_eq, List.length_cons] at this
  omega
theorem InsAt.on {x : Kn} {out nxt : List Kn} {j : Nat} (h : InsAt x out nxt j true) (hj : j < out.length) : InsAt x out (nxt ++ [out[j]]) (j + 1) true := by
  unfold InsAt at *
  rw [if_pos rfl] at *
  rw [List.append_assoc, List.singleton_append, ← List.drop_eq_getElem_cons hj]
  exact h
theorem InsAt.keep {x : Kn} {out nxt : List Kn} {j : Nat} (h : InsAt x out nxt j false) (hj : j < out.length) (hg : gtB out[j].name x.name = false) : InsAt x out (nxt ++ [out[j]]) (j + 1) false := by
  unfold InsAt at *
  rw [if_neg (by decide)] at *
  rw [List.drop_eq_getElem_cons hj, insB, if_neg (by rw [hg]; decide)] at h
  rw [List.append_assoc, List.singleton_append]
  exact h
theorem InsAt.put {x : Kn} {out nxt : List Kn} {j : Nat} (h : InsAt x out nxt j false) (hj : j < out.length) (hg : gtB out[j].name x.name = true) : InsAt x out (nxt ++ [x] ++ [out[j]]) (j + 1) true := by
  unfold InsAt at *
  rw [if_neg (by decide)] at h
  rw [if_pos rfl]
  rw [List.drop_eq_getElem_cons hj, insB, if_pos hg] at h
  rw [List.append_assoc, List.append_assoc, List.singleton_append, List.singleton_append]
  exact h
theorem InsAt.whole {x : Kn} {out nxt : List Kn} {j : Nat} (h : InsAt x out nxt j true) (hj : out.length ≤ j) : nxt = insB Kn.name x out := by
  unfold InsAt at h
  rw [if_pos rfl, List.drop_eq_nil_of_le hj, List.append_nil] at h
  exact h
theorem InsAt.last {x : Kn} {out nxt : List Kn} {j : Nat} (h : InsAt x out nxt j false) (hj : out.length ≤ j) : nxt ++ [x] = insB Kn.name x out := by
  unfold InsAt at h
  rw [if_neg (by decide), List.drop_eq_nil_of_le hj, insB] at h
  exact h

theorem kn_one (a b : ByteArray) : ∀ u ∈ ([.string a, .string b] : List Value), u.oneCell' = true := by
  intro u hu
  simp at hu
  rcases hu with rfl | rfl <;> rfl

theorem tyCode {m : Mo} {l : List Im} {k : Nat} {nm : ByteArray} (h : tyName m k = nm) : tySol m l k = if ownAt m nm < k then (noneS, 4) else refR m l m.types.length noneS [] noneS nm := by
  unfold tySol
  rw [h]

theorem owns_base {w : World} {B B' : Nat} {e : TypeId} {size : Nat} {u : Value} {n : Nat} {xs : List Value} (h : w.ownsRow B' e size u n xs) (hB : B ≤ B') : w.ownsRow B e size u n xs := by
  refine ⟨h.1, h.2.imp_right ?_⟩
  rintro ⟨g, cap, cur, hv, hb, hh, hr⟩
  exact ⟨g, cap, cur, hv, Nat.le_trans hB hb, hh, hr⟩
theorem parted_at {w w' : World} {B B' : Nat} {e e' : TypeId} {size size' : Nat} {v u : Value} {n n' : Nat} {xs xs' : List Value} (hv : w.ownsRow B e size v n xs) (hu : w'.ownsRow B' e' size' u n' xs') (h : w'.heap.size ≤ B) : Parted v u := fun j hj hj' => by
  have := ownsRow_at hv j hj
  have := (ownsRow_in hu j hj').2
  omega

set_option maxRecDepth 100000 in
set_option maxHeartbeats 8000000 in
theorem typesOf_any (S : Nat → Prop) (m : Mo) (l : List Im) (vm vl : Value) (w : World) (hS : ∀ b, S b → b < w.heap.size) (hm : MoIs S w m vm) (hl : SlAt S (ImAt S w) 4 l vl) (hz : ∀ i ∈ l, fcSmall i.face) (hi0 : imsFault l = 0) (hty : ∀ f ∈ m.types, identOk f.name = true ∧ tyFault f.is 1 = 0) (h24 : m.types.length ≤ 24) :
    Calls Tryz.prog 17 #[vm, vl] w fun e w' => ∃ u v, e = .returned (.tuple #[u, v]) ∧ SlAt (fun b => w.heap.size ≤ b ∧ b < w'.heap.size) (KnAt w') 2 (tyIns m l m.types.length) u ∧ SlAt (fun b => w.heap.size ≤ b ∧ b < w'.heap.size) (DgAt w') 2 (tyBads m l m.types.length) v ∧ Below w.heap.size w w' := by
  have hn8 : ∀ f ∈ m.types, f.name.size ≤ 8 := fun f hf => ident_eight (hty f hf).1
  have HSol : Hid (∀ W k (hk : k < m.types.length), Below w.heap.size w W → Calls Tryz.prog 35 #[vm, vl, .string ⟨#[]⟩, .agg #[.int .i64 4, .string ⟨#[]⟩, .string m.types[k].name, .slice none 0 0]] W (Tells W (refR m l m.types.length noneS [] noneS m.types[k].name))) := fun W k hk hW => by
    have hid := (hty _ (List.getElem_mem hk)).1
    have hsz : m.types[k].name.size ≤ maxLen := by have := ident_eight hid; unfold maxLen; omega
    have := solvedOf_any S m l ⟨#[]⟩ (.mk 4 ⟨#[]⟩ m.types[k].name []) vm vl _ W (fun b hb => Nat.lt_of_lt_of_le (hS b hb) hW.size) (hm.keep (Keeps.below hW hS)) (imSl_keep (Keeps.below hW hS) hl) hz hi0 hty h24 (name_fault hid) (name_is hsz)
    rwa [solve_nameR] at this
  have HTy : Hid (∀ W k (hk : k < m.types.length), Below w.heap.size w W → Calls Tryz.prog 36 #[vm, .string m.types[k].name] W fun e w' => e = .returned (.int .i64 (ownAt m m.types[k].name : Nat)) ∧ Below W.heap.size W w') := fun W k hk hW => by
    have := typeAt_any S m m.types[k].name vm W (fun b hb => Nat.lt_of_lt_of_le (hS b hb) hW.size) (hm.keep (Keeps.below hW hS))
    have hle : ownAt m m.types[k].name ≤ k := by rw [← tyName_at hk]; exact own_le hk
    rwa [own_idx (by omega)] at this
  obtain ⟨vu, vty, vf, rfl, hu, hts, hf⟩ := hm
  have HT := veil hts
  obtain ⟨u1, u2, u3, rfl⟩ := hu.slice
  obtain ⟨t1, t3, rfl⟩ := hts.is
  obtain ⟨f1, f2, f3, rfl⟩ := hf.slice
  obtain ⟨la, ln, lc, rfl⟩ := hl.slice
  obtain ⟨w0, hwe, hs0, hA, q0, q1, q2⟩ : ∃ w0, w.alloc (.cells #[.slice u1 u2 u3, .slice t1 m.types.length t3, .slice f1 f2 f3] 26) = w0 ∧ w0.heap.size = w.heap.size + 1 ∧ Below w.heap.size w w0 ∧
      w0.cell? ⟨w.heap.size, 0, none⟩ = some (.slice u1 u2 u3) ∧ w0.cell? ⟨w.heap.size, 1, none⟩ = some (.slice t1 m.types.length t3) ∧ w0.cell? ⟨w.heap.size, 2, none⟩ = some (.slice f1 f2 f3) :=
    ⟨_, rfl, by simp, (Below.refl _ _).alloc (Nat.le_refl _) _, by simp [go_sem], by simp [go_sem], by simp [go_sem]⟩
  have HBox : Hid (∀ W, Below w0.heap.size w0 W → (W.cell? ⟨w.heap.size, 0, none⟩ = some (.slice u1 u2 u3) ∧ W.cell? ⟨w.heap.size, 1, none⟩ = some (.slice t1 m.types.length t3) ∧ W.cell? ⟨w.heap.size, 2, none⟩ = some (.slice f1 f2 f3)) ∧ Below w.heap.size w W ∧ w.heap.size + 1 ≤ W.heap.size) := fun W h =>
    ⟨⟨(h.cell (p := ⟨w.heap.size, 0, none⟩) (by show w.heap.size < _; omega)).trans q0, (h.cell (p := ⟨w.heap.size, 1, none⟩) (by show w.heap.size < _; omega)).trans q1, (h.cell (p := ⟨w.heap.size, 2, none⟩) (by show w.heap.size < _; omega)).trans q2⟩, hA.trans (h.mono hA.size), by have := h.size; omega⟩
  have HWe := veil hwe
  have HBads := veil (tyBads_small (m := m) (l := l) hn8)
  have HIns := veil (tyIns_small (m := m) (l := l) hz hn8)
  clear hu hts hf hl hwe hA q0 q1 q2 hz hi0
  obtain ⟨i0, hi, hz0, hz1, hz2⟩ := info_parts infoDg
  obtain ⟨i1, hj, hz3, hz4, hz5⟩ := info_parts kn_info
  go_enter Tryz.func17, Tryz.ntmps17
  go_wp2_with fail
  rw [HWe.out]
  clear HWe
  go_loopw [6, 7, 8] (fun v u i wr => ∃ k : Nat, k ≤ m.types.length ∧ i = .int .i64 k ∧ wr.ownsRow (w.heap.size + 1) 62 2 v (tyIns m l k).length (knCells (tyIns m l k)) ∧ wr.ownsRow (w.heap.size + 1) 57 2 u (tyBads m l k).length (dgCells (tyBads m l k)) ∧ Parted v u ∧ Below w0.heap.size w0 wr) (fun _ _ i _ => m.types.length - (intOf i).toNat)
  case atStart => exact ⟨0, Nat.zero_le _, rfl, World.ownsRow_nil _ _ _ _, World.ownsRow_nil _ _ _ _, (fun j hj => by cases hj), Below.refl _ _⟩
  case round =>
    obtain ⟨k, hk, rfl, hown, hownD, hpar, hbl⟩ := hrel
    obtain ⟨⟨c0, c1, c2⟩, hbw, hsz⟩ := HBox.out _ hbl
    have HOwn := veil hown
    have HOwnD := veil hownD
    have HPar := veil hpar
    have HBl := veil hbl
    have HBw := veil hbw
    clear hown hownD hpar hbl hbw
    by_cases hlt : k < m.types.length
    · have hlt' : (k : Int) < (m.types.length : Int) := by omega
      have hk0 : (0 : Int) ≤ (k : Int) := by omega
      obtain ⟨_, b, off, rfl, hb, hat⟩ := HT.out.at hlt
      obtain ⟨kd, fo, na, p1, p2, p3, a0, _⟩ := fd_cells hat
      have hbk := hS b hb
      have d0 := (HBw.out.cell (p := ⟨b, off + k * 5, none⟩) hbk).trans a0
      have HS2 := veil (fun W => HSol.out W k hlt)
      have HT2 := veil (fun W => HTy.out W k hlt)
      have hnm : tyName m k = m.types[k].name := tyName_at hlt
      have hle : ownAt m m.types[k].name ≤ k := by rw [← hnm]; exact own_le hlt
      have hLe := tyIns_le m l k
      have HLeD := veil (tyBads_le m l k)
      have HCode := veil (tyCode (l := l) hnm)
      have HOk : Hid ((tySol m l k).2 = 0 → tyIns m l (k + 1) = insB Kn.name ⟨m.types[k].name, (tySol m l k).1⟩ (tyIns m l k) ∧ tyBads m l (k + 1) = tyBads m l k) := fun h => ⟨by rw [← hnm]; exact (tyOks_ok h).2.2, (tyOks_ok h).2.1⟩
      have HBad : Hid ((tySol m l k).2 ≠ 0 → tyIns m l (k + 1) = tyIns m l k ∧ tyBads m l (k + 1) = tyBads m l k ++ [⟨m.types[k].name, (tySol m l k).2⟩]) := fun h => ⟨(tyOks_bad h).2.2, by rw [← hnm]; exact (tyOks_bad h).2.1⟩
      clear a0 hat hnm HT HSol HTy HBads
      generalize m.types[k].name = nm at *
      generalize refR m l m.types.length noneS [] noneS nm = r at *
      generalize tySol m l k = ts at *
      generalize ownAt m nm = q at *
      obtain ⟨rs, rc⟩ := r
      obtain ⟨ss, sc⟩ := ts
      go_wp2_with fail
      refine (HS2.out _ HBw.out).mono ?_
      rintro e w1 ⟨rfl, hb1⟩
      have hbl1 := HBl.out.trans (hb1.mono HBl.out.size)
      obtain ⟨⟨x0, x1, x2⟩, hbw1, hsz1⟩ := HBox.out _ hbl1
      have HBl1 := veil hbl1
      have HBw1 := veil hbw1
      have HOwn1 := veil (ownsRow_later HOwn.out hb1)
      have HOwnD1 := veil (ownsRow_later HOwnD.out hb1)
      clear hbl1 hbw1 hb1 c0 c1 c2 d0 HOwn HOwnD HBl HBw HS2
      go_wp2_with fail
      refine (HT2.out _ HBw1.out).mono ?_
      rintro e w2 ⟨rfl, hb2⟩
      have hbl2 := HBl1.out.trans (hb2.mono HBl1.out.size)
      obtain ⟨_, hbw2, hsz2⟩ := HBox.out _ hbl2
      have HBl2 := veil hbl2
      have HBw2 := veil hbw2
      have HOwn2 := veil (ownsRow_later HOwn1.out hb2)
      have HOwnD2 := veil (ownsRow_later HOwnD1.out hb2)
      clear hbl2 hbw2 hb2 x0 x1 x2 HOwn1 HOwnD1 HBl1 HBw1 HT2
      obtain ⟨cd, hcd, hsc, hss⟩ : ∃ cd : Int, cd = (if q < k then 4 else rc) ∧ sc = cd ∧ (cd = 0 → ss = rs) := by
        have h := HCode.out
        by_cases hq : q < k
        · rw [if_pos hq] at h
          injection h with h1 h2
          exact ⟨4, (if_pos hq).symm, h2, fun e => absurd e (by decide)⟩
        · rw [if_neg hq] at h
          injection h with h1 h2
          exact ⟨rc, (if_neg hq).symm, h2, fun _ => h1⟩
      subst hsc
      have HCd := veil hcd
      clear hcd HCode
      by_cases hc : sc = 0
      · have hq : ¬ q < k := fun h => by have := HCd.out; rw [if_pos h, hc] at this; exact absurd this (by decide)
        have hrc : rc = 0 := by have := HCd.out; rw [if_neg hq] at this; rw [← this]; exact hc
        have hrs := hss hc
        subst hrs
        subst hc
        subst hrc
        have hq' : ¬ (q : Int) < (k : Int) := by omega
        have HZ := veil (HOk.out rfl)
        clear HOk HBad HCd hss
        generalize hout : tyIns m l k = out at *
        have HSmall : Hid (∀ x ∈ out, x.name.size ≤ maxLen ∧ x.is.size ≤ maxLen) := by rw [← hout]; exact HIns.out k
        clear hout
        have HSl := veil (ownsRow_kns HOwn2.out (by unfold maxLen; omega) HSmall.out)
        obtain ⟨oa, ocap, rfl⟩ := HSl.out.is
        go_wp2_with fail
        go_loopw [12, 13, 14] (fun v dv i wz => ∃ (j : Nat) (done : Bool) (nxt : List Kn), j ≤ out.length ∧ i = .int .i64 j ∧ dv = .bool done ∧ wz.ownsRow w2.heap.size 62 2 v nxt.length (knCells nxt) ∧ InsAt ⟨nm, ss⟩ out nxt j done ∧ Below w2.heap.size w2 wz) (fun _ _ i _ => out.length - (intOf i).toNat)
        case atStart => exact ⟨0, false, [], Nat.zero_le _, rfl, rfl, World.ownsRow_nil _ _ _ _, InsAt.start _ _, Below.refl _ _⟩
        case round =>
          obtain ⟨j, done, nxt, hjl, rfl, rfl, hownN, hins, hbz⟩ := hrel
          have HOwnN := veil hownN
          have HIn := veil hins
          have HBz := veil hbz
          have hszz := hbz.size
          have hnl : nxt.length ≤ 25 := by have := hins.len; omega
          clear hownN hins hbz
          by_cases hjlt : j < out.length
          · have hjlt' : (j : Int) < (out.length : Int) := by omega
            have hj0 : (0 : Int) ≤ (j : Int) := by omega
            obtain ⟨_, ob, ooff, rfl, ⟨hob1, hob2⟩, ⟨y0, _⟩, y1, _⟩ := HSl.out.at hjlt
            have HY : Hid (∀ W, Below w2.heap.size w2 W → W.cell? ⟨ob, ooff + j * 2, none⟩ = some (.string out[j].name) ∧ W.cell? ⟨ob, ooff + j * 2 + 1, none⟩ = some (.string out[j].is)) := fun W hW => ⟨(hW.cell (p := ⟨ob, ooff + j * 2, none⟩) hob2).trans y0, (hW.cell (p := ⟨ob, ooff + j * 2 + 1, none⟩) hob2).trans y1⟩
            have z0 := (HBz.out.cell (p := ⟨ob, ooff + j * 2, none⟩) hob2).trans y0
            have z1 := (HBz.out.cell (p := ⟨ob, ooff + j * 2 + 1, none⟩) hob2).trans y1
            have HOn : Hid (done = true → InsAt ⟨nm, ss⟩ out (nxt ++ [⟨out[j].name, out[j].is⟩]) (j + 1) true) := fun h => by subst h; exact HIn.out.on hjlt
            have HKeep : Hid (done = false → gtB out[j].name nm = false → InsAt ⟨nm, ss⟩ out (nxt ++ [⟨out[j].name, out[j].is⟩]) (j + 1) false) := fun h hg => by subst h; exact HIn.out.keep hjlt hg
            have HPut : Hid (done = false → gtB out[j].name nm = true → InsAt ⟨nm, ss⟩ out (nxt ++ [⟨nm, ss⟩] ++ [⟨out[j].name, out[j].is⟩]) (j + 1) true) := fun h hg => by subst h; exact HIn.out.put hjlt hg
            clear y0 y1 HIn HSl
            generalize out[j].name = yn at *
            generalize out[j].is = yi at *
            cases hdone : done with
            | true =>
              have HN := veil (HOn.out hdone)
              clear HOn HKeep HPut
              subst hdone
              go_wp2_with (at_builtin; refine wpList_append_lies _ rfl _ _ 29 rfl w2.heap.size 62 i1 (.agg #[.string ⟨#[]⟩, .string ⟨#[]⟩]) 2 32 Tryz.underlying29 hj hz3 hz4 hz5 rfl (by decide) _ _ _ rfl (HOwnN.out.alloc _) ⟨wr.heap.size, 0, none⟩ 1 1 [.string yn, .string yi] rfl rfl (cell_two_new _ _ _ _) (kn_one _ _) (by decide) (by unfold maxLen; omega) (by omega) (by simp; omega) (wr.heap.size + 1) (by simp) ?_)
              intro g5 cap5 w5 hown5 hgrow5 hat5 hlt5
              have hrow5 := ownsRow_at HOwnN.out
              have HBz5 : Hid (Below w2.heap.size w2 w5) := (HBz.out.alloc (by omega) (.cells #[.string yn, .string yi] 62)).grown hgrow5 (by simp; omega) (fun j hj => by have := hrow5 j hj; omega)
              have HO5 : Hid (w5.ownsRow w2.heap.size 62 2 (.slice (some ⟨g5, 0, none⟩) ((nxt).length + 1) cap5) (nxt ++ [(⟨yn, yi⟩ : Kn)]).length (knCells (nxt ++ [(⟨yn, yi⟩ : Kn)]))) := by
                show w5.ownsRow _ _ _ _ _ _
                rw [knCells_snoc, List.length_append]
                exact hown5
              clear hown5 hgrow5 hat5 hlt5 hrow5
              go_wp2_with fail
              exact ⟨⟨j + 1, true, nxt ++ [(⟨yn, yi⟩ : Kn)], by omega, by go_num, rfl, HO5.out, HN.out, HBz5.out⟩, by simp [intOf]; omega⟩
            | false =>
              subst hdone
              cases hg : gtB yn nm with
              | true =>
                have HN := veil (HPut.out rfl hg)
                have hg' : (!Op.bytesLess yn.toList nm.toList && !(yn.toList == nm.toList)) = true := hg
                clear HOn HKeep HPut hg
                go_wp2_with (at_builtin; refine wpList_append_lies _ rfl _ _ 29 rfl w2.heap.size 62 i1 (.agg #[.string ⟨#[]⟩, .string ⟨#[]⟩]) 2 32 Tryz.underlying29 hj hz3 hz4 hz5 rfl (by decide) _ _ _ rfl (HOwnN.out.alloc _) ⟨wr.heap.size, 0, none⟩ 1 1 [.string nm, .string ss] rfl rfl (cell_two_new _ _ _ _) (kn_one _ _) (by decide) (by unfold maxLen; omega) (by omega) (by simp; omega) (wr.heap.size + 1) (by simp) ?_)
                intro g4 cap4 w4 hown4 hgrow4 hat4 hlt4
                have hrow4 := ownsRow_at HOwnN.out
                have HBz4 : Hid (Below w2.heap.size w2 w4) := (HBz.out.alloc (by omega) (.cells #[.string nm, .string ss] 62)).grown hgrow4 (by simp; omega) (fun j hj => by have := hrow4 j hj; omega)
                have HO4 : Hid (w4.ownsRow w2.heap.size 62 2 (.slice (some ⟨g4, 0, none⟩) (nxt.length + 1) cap4) (nxt ++ [(⟨nm, ss⟩ : Kn)]).length (knCells (nxt ++ [(⟨nm, ss⟩ : Kn)]))) := by
                  show w4.ownsRow _ _ _ _ _ _
                  rw [knCells_snoc, List.length_append]
                  exact hown4
                have HO4' : Hid (w4.ownsRow w2.heap.size 62 2 (.slice (some ⟨g4, 0, none⟩) (nxt.length + 1) cap4) (nxt.length + 1) (knCells (nxt ++ [(⟨nm, ss⟩ : Kn)]))) := by
                  have := HO4.out
                  rw [List.length_append] at this
                  exact this
                have hsz4 := HBz4.out.size
                obtain ⟨z2, z3⟩ := HY.out _ HBz4.out
                clear hown4 hgrow4 hat4 hlt4 hrow4 z0 z1
                go_wp2_with (at_builtin; refine wpList_append_lies _ rfl _ _ 29 rfl w2.heap.size 62 i1 (.agg #[.string ⟨#[]⟩, .string ⟨#[]⟩]) 2 32 Tryz.underlying29 hj hz3 hz4 hz5 rfl (by decide) _ _ _ rfl (HO4'.out.alloc _) ⟨w4.heap.size, 0, none⟩ 1 1 [.string yn, .string yi] rfl rfl (cell_two_new _ _ _ _) (kn_one _ _) (by decide) (by unfold maxLen; omega) (by omega) (by simp; omega) (w4.heap.size + 1) (by simp) ?_)
                intro g5 cap5 w5 hown5 hgrow5 hat5 hlt5
                have hrow5 := ownsRow_at HO4'.out
                have HBz5 : Hid (Below w2.heap.size w2 w5) := (HBz4.out.alloc (by omega) (.cells #[.string yn, .string yi] 62)).grown hgrow5 (by simp; omega) (fun j hj => by have := hrow5 j hj; omega)
                have HO5 : Hid (w5.ownsRow w2.heap.size 62 2 (.slice (some ⟨g5, 0, none⟩) (nxt.length + 1 + 1) cap5) (nxt ++ [(⟨nm, ss⟩ : Kn)] ++ [(⟨yn, yi⟩ : Kn)]).length (knCells (nxt ++ [(⟨nm, ss⟩ : Kn)] ++ [(⟨yn, yi⟩ : Kn)]))) := by
                  show w5.ownsRow _ _ _ _ _ _
                  rw [knCells_snoc, List.length_append, List.length_append]
                  exact hown5
                clear hown5 hgrow5 hat5 hlt5 hrow5
                go_wp2_with fail
                exact ⟨⟨j + 1, true, nxt ++ [(⟨nm, ss⟩ : Kn)] ++ [(⟨yn, yi⟩ : Kn)], by omega, by go_num, rfl, HO5.out, HN.out, HBz5.out⟩, by simp [intOf]; omega⟩
              | false =>
                have HN := veil (HKeep.out rfl hg)
                have hg' : (!Op.bytesLess yn.toList nm.toList && !(yn.toList == nm.toList)) = false := hg
                clear HOn HKeep HPut hg
                go_wp2_with (at_builtin; refine wpList_append_lies _ rfl _ _ 29 rfl w2.heap.size 62 i1 (.agg #[.string ⟨#[]⟩, .string ⟨#[]⟩]) 2 32 Tryz.underlying29 hj hz3 hz4 hz5 rfl (by decide) _ _ _ rfl (HOwnN.out.alloc _) ⟨wr.heap.size, 0, none⟩ 1 1 [.string yn, .string yi] rfl rfl (cell_two_new _ _ _ _) (kn_one _ _) (by decide) (by unfold maxLen; omega) (by omega) (by simp; omega) (wr.heap.size + 1) (by simp) ?_)
                intro g5 cap5 w5 hown5 hgrow5 hat5 hlt5
                have hrow5 := ownsRow_at HOwnN.out
                have HBz5 : Hid (Below w2.heap.size w2 w5) := (HBz.out.alloc (by omega) (.cells #[.string yn, .string yi] 62)).grown hgrow5 (by simp; omega) (fun j hj => by have := hrow5 j hj; omega)
                have HO5 : Hid (w5.ownsRow w2.heap.size 62 2 (.slice (some ⟨g5, 0, none⟩) ((nxt).length + 1) cap5) (nxt ++ [(⟨yn, yi⟩ : Kn)]).length (knCells (nxt ++ [(⟨yn, yi⟩ : Kn)]))) := by
                  show w5.ownsRow _ _ _ _ _ _
                  rw [knCells_snoc, List.length_append]
                  exact hown5
                clear hown5 hgrow5 hat5 hlt5 hrow5
                go_wp2_with fail
                exact ⟨⟨j + 1, false, nxt ++ [(⟨yn, yi⟩ : Kn)], by omega, by go_num, rfl, HO5.out, HN.out, HBz5.out⟩, by simp [intOf]; omega⟩
          · have hjn : ¬ (j : Int) < (out.length : Int) := by omega
            cases hdone : done with
            | true =>
              subst hdone
              have HW := veil (HIn.out.whole (by omega))
              have HO5 : Hid (wr.ownsRow (w.heap.size + 1) 62 2 u12 (tyIns m l (k + 1)).length (knCells (tyIns m l (k + 1)))) := by
                show wr.ownsRow _ _ _ _ _ _
                rw [HZ.out.1, ← HW.out]
                exact owns_base HOwnN.out (by omega)
              have HD5 : Hid (wr.ownsRow (w.heap.size + 1) 57 2 u7 (tyBads m l (k + 1)).length (dgCells (tyBads m l (k + 1)))) := by
                show wr.ownsRow _ _ _ _ _ _
                rw [HZ.out.2]
                exact ownsRow_later HOwnD2.out HBz.out
              have HP5 : Hid (Parted u12 u7) := parted_at HOwnN.out HOwnD2.out (Nat.le_refl _)
              have HL5 := veil (HBl2.out.trans (HBz.out.mono HBl2.out.size))
              go_wp2_with fail
              exact ⟨⟨k + 1, by omega, by go_num, HO5.out, HD5.out, HP5.out, HL5.out⟩, by simp [intOf]; omega⟩
            | false =>
              subst hdone
              have HW := veil (HIn.out.last (by omega))
              go_wp2_with (at_builtin; refine wpList_append_lies _ rfl _ _ 29 rfl w2.heap.size 62 i1 (.agg #[.string ⟨#[]⟩, .string ⟨#[]⟩]) 2 32 Tryz.underlying29 hj hz3 hz4 hz5 rfl (by decide) _ _ _ rfl (HOwnN.out.alloc _) ⟨wr.heap.size, 0, none⟩ 1 1 [.string nm, .string ss] rfl rfl (cell_two_new _ _ _ _) (kn_one _ _) (by decide) (by unfold maxLen; omega) (by omega) (by simp; omega) (wr.heap.size + 1) (by simp) ?_)
              intro g4 cap4 w4 hown4 hgrow4 hat4 hlt4
              have hrow4 := ownsRow_at HOwnN.out
              have HBz4 : Hid (Below w2.heap.size w2 w4) := (HBz.out.alloc (by omega) (.cells #[.string nm, .string ss] 62)).grown hgrow4 (by simp; omega) (fun j hj => by have := hrow4 j hj; omega)
              have HO4 : Hid (w4.ownsRow w2.heap.size 62 2 (.slice (some ⟨g4, 0, none⟩) (nxt.length + 1) cap4) (nxt ++ [(⟨nm, ss⟩ : Kn)]).length (knCells (nxt ++ [(⟨nm, ss⟩ : Kn)]))) := by
                show w4.ownsRow _ _ _ _ _ _
                rw [knCells_snoc, List.length_append]
                exact hown4
              have HO5 : Hid (w4.ownsRow (w.heap.size + 1) 62 2 (.slice (some ⟨g4, 0, none⟩) (nxt.length + 1) cap4) (tyIns m l (k + 1)).length (knCells (tyIns m l (k + 1)))) := by
                show w4.ownsRow _ _ _ _ _ _
                rw [HZ.out.1, ← HW.out]
                exact owns_base HO4.out (by omega)
              have HD5 : Hid (w4.ownsRow (w.heap.size + 1) 57 2 u7 (tyBads m l (k + 1)).length (dgCells (tyBads m l (k + 1)))) := by
                show w4.ownsRow _ _ _ _ _ _
                rw [HZ.out.2]
                exact ownsRow_later HOwnD2.out HBz4.out
              have HP5 : Hid (Parted (.slice (some ⟨g4, 0, none⟩) (nxt.length + 1) cap4) u7) := parted_at HO4.out HOwnD2.out (Nat.le_refl _)
              have HL5 := veil (HBl2.out.trans (HBz4.out.mono HBl2.out.size))
              clear hown4 hgrow4 hat4 hlt4 hrow4
              go_wp2_with fail
              exact ⟨⟨k + 1, by omega, by go_num, HO5.out, HD5.out, HP5.out, HL5.out⟩, by simp [intOf]; omega⟩
      · have hc' : (sc != 0) = true := by simp [hc]
        have HZ := veil (HBad.out hc)
        clear HOk HBad
        by_cases hq : q < k
        · have hq' : (q : Int) < (k : Int) := by omega
          have h4 : sc = 4 := by have := HCd.out; rwa [if_pos hq] at this
          subst h4
          clear HCd hss hc
          go_wp2_with (at_builtin; refine wpList_append_lies _ rfl _ _ 33 rfl (w.heap.size + 1) 57 i0 (.agg #[.string ⟨#[]⟩, .int .i64 0]) 2 24 Tryz.underlying33 hi hz0 hz1 hz2 rfl (by decide) _ _ _ rfl (HOwnD2.out.alloc _) ⟨w2.heap.size, 0, none⟩ 1 1 [.string nm, .int .i64 4] rfl rfl (cell_two_new _ _ _ _) (dg_one _ _) (by decide) (by have := HLeD.out; unfold maxLen; omega) (by have := HLeD.out; omega) (by simp; omega) (w2.heap.size + 1) (by simp) ?_)
          intro g cap w4 hown4 hgrow hat hlt4
          have hrow := ownsRow_at HOwnD2.out
          have HL4 : Hid (Below w0.heap.size w0 w4) := (HBl2.out.alloc (by omega) (.cells #[.string nm, .int .i64 4] 57)).grown hgrow (by simp; omega) (fun j hj => by have := hrow j hj; omega)
          have HD4 : Hid (w4.ownsRow (w.heap.size + 1) 57 2 (.slice (some ⟨g, 0, none⟩) ((tyBads m l k).length + 1) cap) (tyBads m l (k + 1)).length (dgCells (tyBads m l (k + 1)))) := by
            show w4.ownsRow _ _ _ _ _ _
            rw [HZ.out.2, dgCells_snoc, List.length_append]
            exact hown4
          have HO4 : Hid (w4.ownsRow (w.heap.size + 1) 62 2 u6 (tyIns m l (k + 1)).length (knCells (tyIns m l (k + 1)))) := by
            show w4.ownsRow _ _ _ _ _ _
            rw [HZ.out.1]
            exact owns_far (HOwn2.out.alloc _) hgrow (fun j hj hv => HPar.out j hj hv)
          have HP4 : Hid (Parted u6 (.slice (some ⟨g, 0, none⟩) ((tyBads m l k).length + 1) cap)) := HPar.out.grow (HOwn2.out.alloc (.cells #[.string nm, .int .i64 4] 57)) hat (by simp)
          clear hown4 hgrow hrow hat hlt4
          go_wp2_with fail
          exact ⟨⟨k + 1, by omega, by go_num, HO4.out, HD4.out, HP4.out, HL4.out⟩, by simp [intOf]; omega⟩
        · have hq' : ¬ (q : Int) < (k : Int) := by omega
          have h4 : sc = rc := by have := HCd.out; rwa [if_neg hq] at this
          subst h4
          clear HCd hss hc
          go_wp2_with (at_builtin; refine wpList_append_lies _ rfl _ _ 33 rfl (w.heap.size + 1) 57 i0 (.agg #[.string ⟨#[]⟩, .int .i64 0]) 2 24 Tryz.underlying33 hi hz0 hz1 hz2 rfl (by decide) _ _ _ rfl (HOwnD2.out.alloc _) ⟨w2.heap.size, 0, none⟩ 1 1 [.string nm, .int .i64 sc] rfl rfl (cell_two_new _ _ _ _) (dg_one _ _) (by decide) (by have := HLeD.out; unfold maxLen; omega) (by have := HLeD.out; omega) (by simp; omega) (w2.heap.size + 1) (by simp) ?_)
          intro g cap w4 hown4 hgrow hat hlt4
          have hrow := ownsRow_at HOwnD2.out
          have HL4 : Hid (Below w0.heap.size w0 w4) := (HBl2.out.alloc (by omega) (.cells #[.string nm, .int .i64 sc] 57)).grown hgrow (by simp; omega) (fun j hj => by have := hrow j hj; omega)
          have HD4 : Hid (w4.ownsRow (w.heap.size + 1) 57 2 (.slice (some ⟨g, 0, none⟩) ((tyBads m l k).length + 1) cap) (tyBads m l (k + 1)).length (dgCells (tyBads m l (k + 1)))) := by
            show w4.ownsRow _ _ _ _ _ _
            rw [HZ.out.2, dgCells_snoc, List.length_append]
            exact hown4
          have HO4 : Hid (w4.ownsRow (w.heap.size + 1) 62 2 u6 (tyIns m l (k + 1)).length (knCells (tyIns m l (k + 1)))) := by
            show w4.ownsRow _ _ _ _ _ _
            rw [HZ.out.1]
            exact owns_far (HOwn2.out.alloc _) hgrow (fun j hj hv => HPar.out j hj hv)
          have HP4 : Hid (Parted u6 (.slice (some ⟨g, 0, none⟩) ((tyBads m l k).length + 1) cap)) := HPar.out.grow (HOwn2.out.alloc (.cells #[.string nm, .int .i64 sc] 57)) hat (by simp)
          clear hown4 hgrow hrow hat hlt4
          go_wp2_with fail
          exact ⟨⟨k + 1, by omega, by go_num, HO4.out, HD4.out, HP4.out, HL4.out⟩, by simp [intOf]; omega⟩
    · have hnl : ¬ (k : Int) < (m.types.length : Int) := by omega
      have hke : k = m.types.length := by omega
      subst hke
      have HFin1 := veil (ownsRow_kns HOwn.out (Nat.le_trans (tyIns_le _ _ _) (by unfold maxLen; omega)) (HIns.out _))
      have HFin2 := veil (ownsRow_dgs HOwnD.out (Nat.le_trans (tyBads_le _ _ _) (by unfold maxLen; omega)) (HBads.out _))
      clear HOwn HOwnD HPar HT HSol HTy
      go_wp2_with fail
      go_ret2
      exact ⟨_, _, rfl, HFin1.out.imp (fun b hb => ⟨by omega, hb.2⟩) (fun _ _ _ _ _ h => h), HFin2.out.imp (fun b hb => ⟨by omega, hb.2⟩) (fun _ _ _ _ _ h => h), HBw.out⟩

end Go.Proofs.YtkdailcadcfepafGreat
