import Derived.Test.YtagbaimfigljiaaGreatDoorJModuleUses24
namespace Go.Proofs.YtagbaimfigljiaaGreatDoor
open Go.RowKit
set_option maxRecDepth 100000

theorem fun_fin {B : Nat} {l : Toks} {j ob : Nat} {e : Int} {w W : World} {T : Res Fu} {n v o nn o' s' : ByteArray} {k k' n' : Int} {a a1 a2 : Option Addr} {m c m1 c1 m2 c2 : Nat} (hE : EyeAt B l j e 0 W) (hM : Moved B w W) (hlt : B < w.heap.size)
    (hz : W.heap[w.heap.size]? = some (.cells #[.string ⟨#[]⟩, .string ⟨#[]⟩, .slice none 0 0, .int .i64 0, .string ⟨#[]⟩, .string ⟨#[]⟩, .slice none 0 0, .int .i64 0, .int .i64 0, .string ⟨#[]⟩, .string ⟨#[]⟩, .slice none 0 0] 89 (0, 0)))
    (hres : (e = 0 ∧ ∃ x, T = .ok x j ∧ FuC (OwnB (w.heap.size + 1) ob W) W x [.string n, .string v, .slice a m c, .int .i64 k, .string o, .string nn, .slice a1 m1 c1, .int .i64 k', .int .i64 n', .string o', .string s', .slice a2 m2 c2]) ∨ (e ≠ 0 ∧ T = .bad e)) :
    ∃ F, W.setCells w.heap.size 0 [.string n, .string v, .slice a m c, .int .i64 k, .string o, .string nn, .slice a1 m1 c1, .int .i64 k', .int .i64 n', .string o', .string s', .slice a2 m2 c2] = F ∧ F.heap[w.heap.size]? = some (.cells #[.string n, .string v, .slice a m c, .int .i64 k, .string o, .string nn, .slice a1 m1 c1, .int .i64 k', .int .i64 n', .string o', .string s', .slice a2 m2 c2] 89 (0, 0)) ∧ FunR B l T w (.returned (.agg #[.string n, .string v, .slice a m c, .int .i64 k, .string o, .string nn, .slice a1 m1 c1, .int .i64 k', .int .i64 n', .string o', .string s', .slice a2 m2 c2])) F := by
  obtain ⟨hE', hM'⟩ := fars (c := w.heap.size) hlt (Nat.le_refl _) [.string n, .string v, .slice a m c, .int .i64 k, .string o, .string nn, .slice a1 m1 c1, .int .i64 k', .int .i64 n', .string o', .string s', .slice a2 m2 c2] 0 W hE hM
  have h1 : (W.setCells w.heap.size 0 [.string n]).heap[w.heap.size]? = some (.cells #[.string n, .string ⟨#[]⟩, .slice none 0 0, .int .i64 0, .string ⟨#[]⟩, .string ⟨#[]⟩, .slice none 0 0, .int .i64 0, .int .i64 0, .string ⟨#[]⟩, .string ⟨#[]⟩, .slice none 0 0] 89 (0, 0)) := block_set hz 0 (.string n)
  have h2 : (W.setCells w.heap.size 0 [.string n, .string v]).heap[w.heap.size]? = some (.cells #[.string n, .string v, .slice none 0 0, .int .i64 0, .string ⟨#[]⟩, .string ⟨#[]⟩, .slice none 0 0, .int .i64 0, .int .i64 0, .string ⟨#[]⟩, .string ⟨#[]⟩, .slice none 0 0] 89 (0, 0)) := block_set h1 1 (.string v)
  have h3 : (W.setCells w.heap.size 0 [.string n, .string v, .slice a m c]).heap[w.heap.size]? = some (.cells #[.string n, .string v, .slice a m c, .int .i64 0, .string ⟨#[]⟩, .string ⟨#[]⟩, .slice none 0 0, .int .i64 0, .int .i64 0, .string ⟨#[]⟩, .string ⟨#[]⟩, .slice none 0 0] 89 (0, 0)) := block_set h2 2 (.slice a m c)
  have h4 : (W.setCells w.heap.size 0 [.string n, .string v, .slice a m c, .int .i64 k]).heap[w.heap.size]? = some (.cells #[.string n, .string v, .slice a m c, .int .i64 k, .string ⟨#[]⟩, .string ⟨#[]⟩, .slice none 0 0, .int .i64 0, .int .i64 0, .string ⟨#[]⟩, .string ⟨#[]⟩, .slice none 0 0] 89 (0, 0)) := block_set h3 3 (.int .i64 k)
  have h5 : (W.setCells w.heap.size 0 [.string n, .string v, .slice a m c, .int .i64 k, .string o]).heap[w.heap.size]? = some (.cells #[.string n, .string v, .slice a m c, .int .i64 k, .string o, .string ⟨#[]⟩, .slice none 0 0, .int .i64 0, .int .i64 0, .string ⟨#[]⟩, .string ⟨#[]⟩, .slice none 0 0] 89 (0, 0)) := block_set h4 4 (.string o)
  have h6 : (W.setCells w.heap.size 0 [.string n, .string v, .slice a m c, .int .i64 k, .string o, .string nn]).heap[w.heap.size]? = some (.cells #[.string n, .string v, .slice a m c, .int .i64 k, .string o, .string nn, .slice none 0 0, .int .i64 0, .int .i64 0, .string ⟨#[]⟩, .string ⟨#[]⟩, .slice none 0 0] 89 (0, 0)) := block_set h5 5 (.string nn)
  have h7 : (W.setCells w.heap.size 0 [.string n, .string v, .slice a m c, .int .i64 k, .string o, .string nn, .slice a1 m1 c1]).heap[w.heap.size]? = some (.cells #[.string n, .string v, .slice a m c, .int .i64 k, .string o, .string nn, .slice a1 m1 c1, .int .i64 0, .int .i64 0, .string ⟨#[]⟩, .string ⟨#[]⟩, .slice none 0 0] 89 (0, 0)) := block_set h6 6 (.slice a1 m1 c1)
  have h8 : (W.setCells w.heap.size 0 [.string n, .string v, .slice a m c, .int .i64 k, .string o, .string nn, .slice a1 m1 c1, .int .i64 k']).heap[w.heap.size]? = some (.cells #[.string n, .string v, .slice a m c, .int .i64 k, .string o, .string nn, .slice a1 m1 c1, .int .i64 k', .int .i64 0, .string ⟨#[]⟩, .string ⟨#[]⟩, .slice none 0 0] 89 (0, 0)) := block_set h7 7 (.int .i64 k')
  have h9 : (W.setCells w.heap.size 0 [.string n, .string v, .slice a m c, .int .i64 k, .string o, .string nn, .slice a1 m1 c1, .int .i64 k', .int .i64 n']).heap[w.heap.size]? = some (.cells #[.string n, .string v, .slice a m c, .int .i64 k, .string o, .string nn, .slice a1 m1 c1, .int .i64 k', .int .i64 n', .string ⟨#[]⟩, .string ⟨#[]⟩, .slice none 0 0] 89 (0, 0)) := block_set h8 8 (.int .i64 n')
  have h10 : (W.setCells w.heap.size 0 [.string n, .string v, .slice a m c, .int .i64 k, .string o, .string nn, .slice a1 m1 c1, .int .i64 k', .int .i64 n', .string o']).heap[w.heap.size]? = some (.cells #[.string n, .string v, .slice a m c, .int .i64 k, .string o, .string nn, .slice a1 m1 c1, .int .i64 k', .int .i64 n', .string o', .string ⟨#[]⟩, .slice none 0 0] 89 (0, 0)) := block_set h9 9 (.string o')
  have h11 : (W.setCells w.heap.size 0 [.string n, .string v, .slice a m c, .int .i64 k, .string o, .string nn, .slice a1 m1 c1, .int .i64 k', .int .i64 n', .string o', .string s']).heap[w.heap.size]? = some (.cells #[.string n, .string v, .slice a m c, .int .i64 k, .string o, .string nn, .slice a1 m1 c1, .int .i64 k', .int .i64 n', .string o', .string s', .slice none 0 0] 89 (0, 0)) := block_set h10 10 (.string s')
  have h12 : (W.setCells w.heap.size 0 [.string n, .string v, .slice a m c, .int .i64 k, .string o, .string nn, .slice a1 m1 c1, .int .i64 k', .int .i64 n', .string o', .string s', .slice a2 m2 c2]).heap[w.heap.size]? = some (.cells #[.string n, .string v, .slice a m c, .int .i64 k, .string o, .string nn, .slice a1 m1 c1, .int .i64 k', .int .i64 n', .string o', .string s', .slice a2 m2 c2] 89 (0, 0)) := block_set h11 11 (.slice a2 m2 c2)
  have hF := h12
  have hoth := fun b (hb : b ≠ w.heap.size) => sets_other hb [.string n, .string v, .slice a m c, .int .i64 k, .string o, .string nn, .slice a1 m1 c1, .int .i64 k', .int .i64 n', .string o', .string s', .slice a2 m2 c2] 0 W
  have hsz := heap_size_setCells w.heap.size [.string n, .string v, .slice a m c, .int .i64 k, .string o, .string nn, .slice a1 m1 c1, .int .i64 k', .int .i64 n', .string o', .string s', .slice a2 m2 c2] 0 W
  refine ⟨_, rfl, hF, hM', n, v, a, m, c, k, o, nn, a1, m1, c1, k', n', o', s', a2, m2, c2, rfl, e, j, hE', ?_⟩
  rcases hres with ⟨rfl, x, hT, hx⟩ | h
  · exact .inl ⟨rfl, x, hT, fuC_keep ⟨fun b hb => hoth b (by have := hb.1; omega), fun b hb => ⟨by have := hb.1; omega, by rw [hsz]; exact hb.2.1⟩⟩ hx⟩
  · exact .inr h

/-- the function's box, while its params are read: they lie in a row of the call's own. -/
def ParAt (B : Nat) (l : Toks) (ob : Nat) (w : World) (n v : ByteArray) (T : Res Fu) (g : Nat) (wx : World) : Prop :=
  ∃ (e : Int) (j m c : Nat) (a : Option Addr) (ys : List Value), EyeAt B l j e 0 wx ∧ Moved B w wx ∧ w.heap.size < ob ∧
    wx.heap[w.heap.size]? = some (.cells #[.string ⟨#[]⟩, .string ⟨#[]⟩, .slice none 0 0, .int .i64 0, .string ⟨#[]⟩, .string ⟨#[]⟩, .slice none 0 0, .int .i64 0, .int .i64 0, .string ⟨#[]⟩, .string ⟨#[]⟩, .slice none 0 0] 89 (0, 0)) ∧
    wx.heap[ob]? = some (.cells #[.string n, .string v, .slice a m c, .int .i64 0, .string ⟨#[]⟩, .string ⟨#[]⟩, .slice none 0 0, .int .i64 0, .int .i64 0, .string ⟨#[]⟩, .string ⟨#[]⟩, .slice none 0 0] 89 (0, 0)) ∧
    wx.ownsRow (ob + 1) 101 5 (.slice a m c) m ys ∧ m + g ≤ l.length + 1 ∧
    ((e = 0 ∧ ∃ xs, Items FdC 5 (ob + 1) xs (.slice a m c) ys wx ∧ m = xs.length ∧ T = bindF (headP l g xs j) (finRes l n v) ∧ l.length - j < g) ∨ (e ≠ 0 ∧ T = .bad e))

theorem items_sl {base m c : Nat} {xs : List Fd} {a : Option Addr} {ys : List Value} {W : World} (h : Items FdC 5 base xs (.slice a m c) ys W) (hown : W.ownsRow base 101 5 (.slice a m c) m ys) (hm : m = xs.length) (hmax : m ≤ maxLen) :
    SlAt (Fresh base W) (FdAt (Fresh base W) W) 5 xs (.slice a m c) := by
  subst hm
  refine ⟨a, c, rfl, ⟨hmax, ?_⟩, ?_⟩
  · rcases hown.2 with ⟨h1, h2⟩ | ⟨g, cap', cur, h1, _, _, h3, _⟩
    · omega
    · cases h1; exact h3
  · rcases Nat.eq_zero_or_pos xs.length with h0 | h0
    · exact .inl h0
    · right
      obtain ⟨g, cap', hv⟩ := ownsRow_form' hown h0
      cases hv
      have hin := ownsRow_in hown g rfl
      refine ⟨g, 0, rfl, ⟨hin.1, hin.2⟩, RowAt.mk fun t ht => ?_⟩
      obtain ⟨cs, h1, h2, h3⟩ := h t ht
      refine fdC_at h1 (fdC_keep ⟨fun _ _ => rfl, fun b hb => ⟨hb.1, hb.2.1⟩⟩ h3) (fun t' u hu => ?_)
      have ht' : t' < 5 := by rw [← h1]; exact (List.getElem?_eq_some_iff.1 hu).1
      rw [Nat.zero_add]
      exact own_cell hown _ _ ((h2 t' ht').trans hu)

end Go.Proofs.YtagbaimfigljiaaGreatDoor
