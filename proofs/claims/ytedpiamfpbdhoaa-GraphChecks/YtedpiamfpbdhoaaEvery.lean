/- What token.every answers, at every text and function value: whether each byte fits; then token.Word and token.Quotable, and the reference's WordMay and QuoteMay: plain functions of the text. -/
import Derived.Test.YtedpiamfpbdhoaaRun
namespace Go.Proofs.Ytedpiamfpbdhoaa
open Go.RowKit

def allB (p : Nat → Bool) (n : Nat) : Bool := (List.range n).all p

theorem allB_iff (p : Nat → Bool) (n : Nat) : allB p n = true ↔ ∀ j, j < n → p j = true := by
  simp [allB, List.all_eq_true, List.mem_range]

theorem runTo_all {p : Nat → Bool} {n k : Nat} (h : RunTo p n 0 k) : ((k : Int) == (n : Int)) = allB p n := by
  obtain ⟨_, h2, h3, h4⟩ := h
  rw [Bool.eq_iff_iff, allB_iff, beq_iff_eq]
  constructor
  · intro e j hj
    exact h3 j (Nat.zero_le _) (by omega)
  · intro e
    by_cases hk : k < n
    · have := h4 hk
      rw [e k hk] at this
      cases this
    · omega

theorem allB_false {p : Nat → Bool} {n k : Nat} (hk : k < n) (h : p k = false) : allB p n = false := by
  cases e : allB p n with
  | false => rfl
  | true => rw [allB_iff] at e; rw [e k hk] at h; cases h

theorem allB_congr {p q : Nat → Bool} {n : Nat} (h : ∀ j, j < n → p j = q j) : allB p n = allB q n := by
  rw [Bool.eq_iff_iff, allB_iff, allB_iff]
  constructor
  · intro e j hj; rw [← h j hj]; exact e j hj
  · intro e j hj; rw [h j hj]; exact e j hj

/-- byte j of s, as a number (0 beyond its end). -/
def byteAt (s : ByteArray) (j : Nat) : Int := ((s.data.toList.getD j 0).toNat : Int)

theorem byteAt_get (s : ByteArray) (k : Nat) (h : k < s.size) : ((s[k]'h).toNat : Int) = byteAt s k := by
  unfold byteAt
  have h' : k < s.data.toList.length := by simpa using h
  rw [List.getD_eq_getElem?_getD, List.getElem?_eq_getElem h']
  rfl

theorem byteAt_range (s : ByteArray) (k : Nat) : 0 ≤ byteAt s k ∧ byteAt s k ≤ 255 := by
  unfold byteAt
  have := (s.data.toList.getD k 0).toNat_lt
  omega

set_option maxHeartbeats 400000 in
theorem every_any (g : Nat) (lb : Array Value) (eg : ∀ args w, (callFunc g args).run Try.prog w = .ok (.enter g args) w) (s : ByteArray) (hs : s.size ≤ maxLen) (p : Nat → Bool) (St : Nat → World → Prop)
    (w : World) (hp : Steps g lb s p St 0) (hSt : ∀ k W, St k W → W.cell? ⟨w.heap.size, 0, none⟩ = some (.string s)) (hw : St 0 (w.alloc (.cells #[.string s] 9))) :
    Calls Try.prog 35 #[.string s, .func (.func g) #[] lb] w fun e w' => e = .returned (.bool (allB p s.size)) ∧ ∃ j, St j w' := by
  have hr := run_any g lb eg s hs p St w.heap.size hSt 0 hp (by omega) (by omega) _ hw
  clear hp hSt
  unfold maxLen at hs
  go_enter Try.func35, Try.ntmps35
  go_wp2_with (go_at_call 37; refine (runOf_any _ _).mono ?_; rintro e w' ⟨rfl, rfl⟩)
  refine hr.mono ?_
  rintro e w' ⟨k, rfl, hk, hj⟩
  have hk' := runTo_all hk
  clear hr eg
  have HK : Hid (((k : Int) == (s.size : Int)) = allB p s.size) := hk'
  clear hk' hk
  go_wp2
  go_ret
  exact ⟨by rw [HK.out]; rfl, hj⟩

/-- at a predicate that turns nothing. -/
theorem every_pure (g : Nat) (eg : ∀ args w, (callFunc g args).run Try.prog w = .ok (.enter g args) w) (q : Int → Bool) (hq : ∀ (b : Int) (w : World), Calls Try.prog g #[.int .u8 b] w fun e w' => e = .returned (.bool (q b)) ∧ w = w')
    (s : ByteArray) (hs : s.size ≤ maxLen) (w : World) :
    Calls Try.prog 35 #[.string s, .func (.func g) #[] #[]] w fun e w' => e = .returned (.bool (allB (fun j => q (byteAt s j)) s.size)) ∧ w.alloc (.cells #[.string s] 9) = w' := by
  refine (every_any g #[] eg s hs (fun j => q (byteAt s j)) (fun _ W => w.alloc (.cells #[.string s] 9) = W) w ?_ ?_ rfl).mono ?_
  · rintro k hk W _ _ rfl
    refine (hq _ _).mono ?_
    rintro e w' ⟨rfl, rfl⟩
    exact ⟨by rw [byteAt_get], rfl⟩
  · rintro k W rfl
    rw [World.cell?_alloc_at _ _ _ _ rfl]; rfl
  · rintro e w' ⟨rfl, _, h⟩
    exact ⟨rfl, h⟩

end Go.Proofs.Ytedpiamfpbdhoaa
