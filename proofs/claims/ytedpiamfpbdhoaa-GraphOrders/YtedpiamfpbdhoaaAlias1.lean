/- What slices.Contains answers at a list of texts, and slices.IndexFunc at imports and at fields with the closures that ask for a name; the reference's hasText and typeAt. -/
import Derived.Test.YtedpiamfpbdhoaaFaceFind
namespace Go.Proofs.Ytedpiamfpbdhoaa
open Go.RowKit

theorem beq_flip (s x : ByteArray) : (s.toList == x.toList) = (x.toList == s.toList) := by
  rw [Bool.eq_iff_iff, beq_iff_eq, beq_iff_eq]
  exact eq_comm

def hasS (l : List ByteArray) (s : ByteArray) : Bool := decide (findAt (fun x => sEq x s) l < l.length)

theorem im_cells {S : Nat → Prop} {w : World} {i : Im} {b o : Nat} (h : ImAt S w i b o) : ∃ a n cap a2 n2 cap2, w.cell? ⟨b, o, none⟩ = some (.string i.name) ∧ w.cell? ⟨b, o + 1, none⟩ = some (.bool i.there) ∧ w.cell? ⟨b, o + 2, none⟩ = some (.slice a n cap) ∧ w.cell? ⟨b, o + 3, none⟩ = some (.slice a2 n2 cap2) ∧ FcIs S w i.face (.agg #[.slice a n cap, .slice a2 n2 cap2]) := by
  obtain ⟨⟨h0, _⟩, h1, vt, vf, h2, h3, hc⟩ := h
  obtain ⟨a, n, cap, rfl⟩ := hc.1.slice
  obtain ⟨a2, n2, cap2, rfl⟩ := hc.2.slice
  exact ⟨a, n, cap, a2, n2, cap2, h0, h1, h2, h3, _, _, rfl, hc⟩

set_option maxHeartbeats 2000000 in
theorem hasText_any (S : Nat → Prop) (l : List ByteArray) (s : ByteArray) (v : Value) (w : World) (hS : ∀ b, S b → b < w.heap.size) (hv : SlAt S (StrAt w) 1 l v) :
    Calls Try.prog 18 #[v, .string s] w fun e w' => e = .returned (.bool (hasS l s)) ∧ Below w.heap.size w w' := by
  have HV := veil hv
  have hlen := hv.len
  unfold maxLen at hlen
  obtain ⟨a, cap, rfl⟩ := hv.is
  clear hv
  go_enter Try.func18, Try.ntmps18
  go_wp2_with fail
  go_loopw [5] (fun i wr => ∃ j : Nat, j ≤ l.length ∧ i = .int .i64 j ∧ findAt (fun x => sEq x s) l = j + findAt (fun x => sEq x s) (l.drop j) ∧ wr = w) (fun i _ => l.length - (intOf i).toNat)
  case atStart => exact ⟨0, Nat.zero_le _, rfl, (Nat.zero_add _).symm, rfl⟩
  case round =>
    obtain ⟨j, hj, rfl, hq, rfl⟩ := hrel
    have HQ := veil hq
    clear hq
    by_cases hlt : j < l.length
    · have hlt' : (j : Int) < (l.length : Int) := by omega
      obtain ⟨_, b, off, rfl, hb, a0, m0⟩ := HV.out.at hlt
      have hbk := hS b hb
      rw [Nat.mul_one] at a0
      have HYes : Hid ((l[j].toList == s.toList) = true → hasS l s = true) := fun h => by
        unfold hasS
        rw [HQ.out, find_yes hlt h]; simpa using hlt
      have HNo : Hid ((l[j].toList == s.toList) = false → findAt (fun x => sEq x s) l = (j + 1) + findAt (fun x => sEq x s) (l.drop (j + 1))) := fun h => by
        rw [HQ.out, find_no hlt h]; omega
      clear m0 HV HQ
      generalize l[j] = x at *
      cases hx : (x.toList == s.toList) with
      | true =>
        have HI := veil (HYes.out hx)
        clear HYes HNo
        go_wp2_with fail
        go_ret
        exact ⟨by rw [HI.out]; rfl, Below.refl _ _⟩
      | false =>
        have HN := veil (HNo.out hx)
        clear HYes HNo
        go_wp2_with fail
        exact ⟨⟨j + 1, by omega, by go_num, HN.out, by simp⟩, by simp [intOf]; omega⟩
    · have hnl : ¬ (j : Int) < (l.length : Int) := by omega
      have HI : Hid (hasS l s = false) := by
        show _ = _
        unfold hasS
        rw [HQ.out, find_end (by omega)]; simp; omega
      clear HV HQ
      go_wp2_with fail
      go_ret
      exact ⟨by rw [HI.out]; rfl, Below.refl _ _⟩

end Go.Proofs.Ytedpiamfpbdhoaa
