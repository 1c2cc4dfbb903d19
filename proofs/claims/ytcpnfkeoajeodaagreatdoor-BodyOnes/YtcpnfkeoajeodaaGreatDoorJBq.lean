/- How long a type's kind can be. -/
import Derived.Test.YtcpnfkeoajeodaaGreatDoorJSb
import Derived.Test.YtcpnfkeoajeodaaGreatDoorJBp
import Derived.Test.YtcpnfkeoajeodaaGreatDoorJFaceFunc
namespace Go.Proofs.YtcpnfkeoajeodaaGreatDoor
open Go.RowKit
set_option maxRecDepth 100000

theorem solveP_le {B : Nat} (hB : 600 ≤ B) {ρ : ByteArray → ByteArray → Sol} (h : ∀ o n, (ρ o n).1.size ≤ B) : ∀ (d : Nat) (t : Ty), (solveP ρ d t).1.size ≤ B
  | 0, _ => Nat.zero_le _
  | d + 1, .mk k o n xs => by
    unfold solveP
    split
    · exact Nat.le_trans (by decide) hB
    · split
      · exact Nat.le_trans (by decide) hB
      · split
        · cases xs with
          | nil => exact Nat.zero_le _
          | cons t r =>
            show (listR (solveP ρ d t)).1.size ≤ _
            unfold listR
            split
            · split
              · rename_i hl
                exact Nat.le_trans (wrapK_le hl) hB
              · exact Nat.zero_le _
            · exact Nat.zero_le _
        · exact h o n
theorem impR_le {B : Nat} (hB : reachBytes ≤ B) {u : List ByteArray} {l : List Im} (hz : ∀ i ∈ l, fcSmall i.face) (o n : ByteArray) : (impR u l o n).1.size ≤ B := by
  show (impVal u l o n).size ≤ _
  unfold impVal
  split
  · unfold typeVal
    cases hk : (fromFc u l o).types[typeAt (fromFc u l o) n]? with
    | none => exact Nat.zero_le _
    | some k =>
      have := (from_small (u := u) o hz).1.2 k (List.mem_of_getElem? hk)
      have h2 := this.2
      show k.is.size ≤ _
      omega
  · exact Nat.zero_le _
theorem refR_le {B : Nat} (h6 : 600 ≤ B) (hB : reachBytes ≤ B) {m : Mo} {l : List Im} (hz : ∀ i ∈ l, fcSmall i.face) : ∀ (u : Nat) (v : ByteArray) (under : List ByteArray) (o n : ByteArray), (refR m l u v under o n).1.size ≤ B
  | 0, v, under, o, n => by
    unfold refR
    split
    · split
      · show (1 : Nat) ≤ _
        omega
      · split <;> exact Nat.zero_le _
    · exact impR_le hB hz o n
  | u + 1, v, under, o, n => by
    unfold refR
    split
    · split
      · show (1 : Nat) ≤ _
        omega
      · cases m.types[ownAt m n]? with
        | none => exact Nat.zero_le _
        | some f =>
          simp only
          split
          · exact Nat.zero_le _
          · exact solveP_le h6 (fun o n => refR_le h6 hB hz u _ _ o n) 10 _
    · exact impR_le hB hz o n
theorem rhoR_le {m : Mo} {l : List Im} (hz : ∀ i ∈ l, fcSmall i.face) (vv : ByteArray) (t : Ty) : (rhoR m l vv t).1.size ≤ 281474976710656 := by
  have hr := reachBytes_lt
  exact solveP_le (by omega) (fun o n => refR_le (by omega) (by omega) hz _ _ _ o n) 10 t

theorem o_none {o : ByteArray} (h : o.toList.isEmpty = true) : noneB o = true := by
  unfold noneB
  rw [Lib.toList_data] at h
  cases hd : o.data.toList with
  | nil => rfl
  | cons a b => rw [hd] at h; cases h
theorem o_some {o : ByteArray} (h : o.toList.isEmpty = false) : noneB o = false := by
  unfold noneB
  rw [Lib.toList_data] at h
  cases hd : o.data.toList with
  | nil => rw [hd] at h; cases h
  | cons a b => rfl
theorem sgIs_slice {S : Nat → Prop} {w : World} {g : Sg} {a : Option Addr} {n c : Nat} (h : SgIs S w g (.agg #[.string g.name, .slice a n c, .string g.result])) : n = g.params.length ∧ g.result.size ≤ maxLen ∧ SlAt S (StrAt w) 1 g.params (.slice a n c) := by
  obtain ⟨vp, hve, _, h2, h3⟩ := h
  have e : vp = .slice a n c := by
    injection hve with hve
    have h1 : [Value.string g.name, .slice a n c, .string g.result] = [.string g.name, vp, .string g.result] := congrArg Array.toList hve
    injection h1 with _ h1
    injection h1 with h1 _
    exact h1.symm
  subst e
  obtain ⟨a', c', e'⟩ := h3.is
  injection e' with _ e'
  exact ⟨e', h2, h3⟩

end Go.Proofs.YtcpnfkeoajeodaaGreatDoor

/- What the reference's FuncIn answers, where the lists lie being kept. -/
namespace Go.Proofs.YtcpnfkeoajeodaaGreatDoor
open Go.RowKit
set_option maxRecDepth 100000

set_option maxHeartbeats 4000000 in
theorem funcIn_S (S : Nat → Prop) (f : Fc) (s : ByteArray) (v : Value) (w : World) (hS : ∀ b, S b → b < w.heap.size) (hv : FcIs S w f v) :
    Calls Tryz.prog 40 #[v, .string s] w fun e w' => ∃ a n cap, e = .returned (.tuple #[.agg #[.string (funcVal f s).name, .slice a n cap, .string (funcVal f s).result], .int .i64 (funcErr f s)]) ∧ SgIs S w' (funcVal f s) (.agg #[.string (funcVal f s).name, .slice a n cap, .string (funcVal f s).result]) ∧ Below w.heap.size w w' := by
  obtain ⟨vt, vf, rfl, ht, hf⟩ := hv
  have HT := veil hf
  have hlen := hf.len
  unfold maxLen at hlen
  obtain ⟨a2, n2, cap2, rfl⟩ := ht.slice
  obtain ⟨a, cap, rfl⟩ := hf.is
  obtain ⟨w2, hwe, hs2, p0, hbel, q0, q1, q2, f0, f1, f2⟩ : ∃ w2, (w.alloc (.cells #[.slice a2 n2 cap2, .slice a f.funcs.length cap] 31)).alloc (.cells #[.string ⟨#[]⟩, .slice none 0 0, .string ⟨#[]⟩] 44) = w2 ∧ w2.heap.size = w.heap.size + 2 ∧
      w2.cell? ⟨w.heap.size, 1, none⟩ = some (.slice a f.funcs.length cap) ∧ Below w.heap.size w w2 ∧
      w2.cell? ⟨w.heap.size + 1, 0, none⟩ = some (.string ⟨#[]⟩) ∧ w2.cell? ⟨w.heap.size + 1, 1, none⟩ = some (.slice none 0 0) ∧ w2.cell? ⟨w.heap.size + 1, 2, none⟩ = some (.string ⟨#[]⟩) ∧
      w2.frozen? ⟨w.heap.size + 1, 0, none⟩ = false ∧ w2.frozen? ⟨w.heap.size + 1, 1, none⟩ = false ∧ w2.frozen? ⟨w.heap.size + 1, 2, none⟩ = false :=
    ⟨_, rfl, by simp, by simp [go_sem], ((Below.refl _ _).alloc (Nat.le_refl _) _).alloc (by simp) _, by simp [go_sem], by simp [go_sem], by simp [go_sem], by simp [go_sem], by simp [go_sem], by simp [go_sem]⟩
  have HWe := veil hwe
  have HBel := veil hbel
  have HP0 := veil p0
  have HSet : Hid (∀ u0 u1 u2, Below w.heap.size w (((w2.setCell ⟨w.heap.size + 1, 0, none⟩ u0).setCell ⟨w.heap.size + 1, 1, none⟩ u1).setCell ⟨w.heap.size + 1, 2, none⟩ u2)) := fun u0 u1 u2 =>
    ((hbel.setCell (by show w.heap.size ≤ w.heap.size + 1; omega) _).setCell (by show w.heap.size ≤ w.heap.size + 1; omega) _).setCell (by show w.heap.size ≤ w.heap.size + 1; omega) _
  have HSg : Hid (∀ g v u0 u1 u2, SgIs S w2 g v → SgIs S (((w2.setCell ⟨w.heap.size + 1, 0, none⟩ u0).setCell ⟨w.heap.size + 1, 1, none⟩ u1).setCell ⟨w.heap.size + 1, 2, none⟩ u2) g v) := fun g v u0 u1 u2 h => by
    refine h.keep ⟨fun b hb => ?_, fun b hb => hb⟩
    have := hS b hb
    rw [Below.heap_setCell _ _ _ _ (by show b ≠ w.heap.size + 1; omega), Below.heap_setCell _ _ _ _ (by show b ≠ w.heap.size + 1; omega), Below.heap_setCell _ _ _ _ (by show b ≠ w.heap.size + 1; omega)]
  clear ht hf hwe hbel p0
  go_enter Tryz.func40, Tryz.ntmps40
  go_wp2_with fail
  rw [HWe.out]
  clear HWe
  go_loopw [6] (fun i wr => ∃ j : Nat, j ≤ f.funcs.length ∧ i = .int .i64 j ∧ findAt (fun k : Sg => sEq k.name s) f.funcs = j + findAt (fun k : Sg => sEq k.name s) (f.funcs.drop j) ∧ wr = w2) (fun i _ => f.funcs.length - (intOf i).toNat)
  case atStart => exact ⟨0, Nat.zero_le _, rfl, (Nat.zero_add _).symm, rfl⟩
  case round =>
    obtain ⟨j, hj, rfl, hq, rfl⟩ := hrel
    have HQ := veil hq
    clear hq
    have c0 := HP0.out
    by_cases hlt : j < f.funcs.length
    · have hlt' : (j : Int) < (f.funcs.length : Int) := by omega
      obtain ⟨_, b, off, rfl, hb, hat⟩ := HT.out.at hlt
      have hbk := hS b hb
      obtain ⟨r1, r2, r3, a0, a1, a3, hgi⟩ := sgIs_at hat
      have d0 := (HBel.out.cell (p := ⟨b, off + j * 3, none⟩) hbk).trans a0
      have d1 := (HBel.out.cell (p := ⟨b, off + j * 3 + 1, none⟩) hbk).trans a1
      have d2 := (HBel.out.cell (p := ⟨b, off + j * 3 + 2, none⟩) hbk).trans a3
      have HG := veil (hgi.keep (Keeps.below HBel.out hS))
      have HYes : Hid ((f.funcs[j].name.toList == s.toList) = true → funcVal f s = f.funcs[j] ∧ funcErr f s = 0) := fun h => func_yes hlt (by
        show findAt (fun k : Sg => sEq k.name s) f.funcs = j
        rw [HQ.out, find_yes hlt h]; rfl)
      have HNo : Hid ((f.funcs[j].name.toList == s.toList) = false → findAt (fun k : Sg => sEq k.name s) f.funcs = (j + 1) + findAt (fun k : Sg => sEq k.name s) (f.funcs.drop (j + 1))) := fun h => by
        rw [HQ.out, find_no hlt h]; omega
      clear a0 a1 a3 HT HQ hat hgi
      generalize f.funcs[j] = g at *
      cases hx : (g.name.toList == s.toList) with
      | true =>
        have HR := veil (HYes.out hx)
        clear HYes HNo
        go_wp2_with fail
        rw [HR.out.1, HR.out.2]
        exact bodyPost_ret (v := .tuple #[.agg #[.string g.name, .slice r1 r2 r3, .string g.result], .int .i64 0]) (by simp [results, Tryz.results40, go_sem, q0, q1, q2]) rfl ⟨r1, r2, r3, rfl, HSg.out _ _ _ _ _ HG.out, HSet.out _ _ _⟩
      | false =>
        have HN := veil (HNo.out hx)
        clear HYes HNo
        go_wp2_with fail
        exact ⟨⟨j + 1, by omega, by go_num, HN.out, by simp⟩, by simp [intOf]; omega⟩
    · have hnl : ¬ (j : Int) < (f.funcs.length : Int) := by omega
      have HR := veil (func_no (f := f) (s := s) (by
        show f.funcs.length ≤ findAt (fun k : Sg => sEq k.name s) f.funcs
        rw [HQ.out, find_end (by omega)]; omega))
      clear HT HQ
      go_wp2_with fail
      rw [HR.out.1, HR.out.2]
      exact bodyPost_ret (v := .tuple #[.agg #[.string ⟨#[]⟩, .slice none 0 0, .string ⟨#[]⟩], .int .i64 6]) (by simp [results, Tryz.results40, go_sem, q0, q1, q2]) rfl ⟨none, 0, 0, rfl, sg_none _ _, HSet.out _ _ _⟩

end Go.Proofs.YtcpnfkeoajeodaaGreatDoor
