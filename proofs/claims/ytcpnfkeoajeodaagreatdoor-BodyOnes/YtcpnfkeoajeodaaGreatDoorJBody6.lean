/- What the reference's isOf answers, at every expression that may be. -/
import Derived.Test.YtcpnfkeoajeodaaGreatDoorJBody4
import Derived.Test.YtcpnfkeoajeodaaGreatDoorJBody5
namespace Go.Proofs.YtcpnfkeoajeodaaGreatDoor
open Go.RowKit
set_option maxRecDepth 100000

theorem isOf_any (S : Nat → Prop) (m : Mo) (l : List Im) (own : Fc) (ps : List Kn) (vm vl vo vp : Value) (w : World) (hS : ∀ b, S b → b < w.heap.size) (hm : MoIs S w m vm) (hl : SlAt S (ImAt S w) 4 l vl) (ho : FcIs S w own vo) (hp : SlAt S (KnAt w) 2 ps vp) (hi : imsFault l = 0) (hSz : ∀ x, (exIs ps (faceOf m l own) x).1.size ≤ maxLen) :
    ∀ (n d : Nat) (_ : 10 < d + n) (x : Ex) (v : Value) (W : World), Below w.heap.size w W → exFault x d = 0 → ExIs S w x v → Calls Tryz.prog 18 #[vm, vl, vo, vp, v] W (IsAns ps (faceOf m l own) x W)
  | 0, d, hd, x, v, W, _, hx, _ => by
    obtain ⟨k, n, o, s, xs⟩ := x
    have := (ex_parts hx).1
    omega
  | n + 1, d, hd, x, v, W, hW, hx, hv => by
    have hIH : ∀ (x : Ex) (v : Value) (W : World), Below w.heap.size w W → exFault x (d + 1) = 0 → ExIs S w x v → Calls Tryz.prog 18 #[vm, vl, vo, vp, v] W (IsAns ps (faceOf m l own) x W) :=
      fun x v W hW hx hv => isOf_any S m l own ps vm vl vo vp w hS hm hl ho hp hi hSz n (d + 1) (by omega) x v W hW hx hv
    obtain ⟨k, num, o, s, xv, rfl, xs, rfl, _, _, hsl⟩ := hv
    have hk := (ex_parts hx).2.1
    have hvm : ∃ a b c d e f g h i, vm = .agg #[.slice a b c, .slice d e f, .slice g h i] := by
      obtain ⟨vu, vt, vf, rfl, h1, h2, h3⟩ := hm
      obtain ⟨a, b, c, rfl⟩ := h1.slice
      obtain ⟨d, e, f, rfl⟩ := h2.slice
      obtain ⟨g, h, i, rfl⟩ := h3.slice
      exact ⟨_, _, _, _, _, _, _, _, _, rfl⟩
    have hvl : ∃ a b c, vl = .slice a b c := hl.slice
    have hvo : ∃ a b c d e f, vo = .agg #[.slice a b c, .slice d e f] := by
      obtain ⟨vt, vf, rfl, h1, h2⟩ := ho
      obtain ⟨a, b, c, rfl⟩ := h1.slice
      obtain ⟨d, e, f, rfl⟩ := h2.slice
      exact ⟨_, _, _, _, _, _, rfl⟩
    have hvp : ∃ a b c, vp = .slice a b c := hp.slice
    have hSW : ∀ b, S b → b < W.heap.size := fun b hb => Nat.lt_of_lt_of_le (hS b hb) hW.size
    by_cases h3 : k ≤ 3
    · have hk3 : k = 1 ∨ k = 2 ∨ k = 3 := by
        simp [isIn] at hk
        omega
      exact isOf_leaf S ps (faceOf m l own) vm vl vo vp W hSW hvm hvl hvo (knSl_keep (Keeps.below hW hS) hp) k num o s xs xv hk3 hsl.slice
    · by_cases h4 : k = 4
      · subst h4
        cases he : o.toList.isEmpty with
        | true =>
          have hf : faceOf m l own o = own := if_pos (o_none he)
          exact isOf_own S ps (faceOf m l own) vm vl vo vp w W hS hW hvm hvl hvo hvp d hIH num o s xs xv hx hsl hSz he (by rw [hf]; exact ho)
        | false =>
          have hf : faceOf m l own o = fromFc m.uses l o := if_neg (by rw [o_some he]; decide)
          exact isOf_other S ps (faceOf m l own) m l vm vl vo vp w W hS hW hvm hvl hvo hvp d hIH num o s xs xv hx hsl hSz he hm hl hi hf
      · exact isOf_rest S ps (faceOf m l own) vm vl vo vp w W hS hW hvm hvl hvo hvp d hIH k num o s xs xv hx (by omega) hsl hSz

end Go.Proofs.YtcpnfkeoajeodaaGreatDoor
