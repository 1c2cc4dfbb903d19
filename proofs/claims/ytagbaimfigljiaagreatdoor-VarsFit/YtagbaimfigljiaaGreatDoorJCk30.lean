import Derived.Test.YtagbaimfigljiaaGreatDoorJCk29
import Derived.Test.YtagbaimfigljiaaGreatDoorJCk23
namespace Go.Proofs.YtagbaimfigljiaaGreatDoor
open Go.RowKit
set_option maxRecDepth 100000

theorem star_text : ∀ n < 4, (kText n 2).data.toList = (openK n).data.toList ++ 42 :: (shutK n).data.toList := by decide +kernel
theorem star_out : ∀ n < 4, (42 : UInt8) ∉ (openK n).data.toList ∧ (42 : UInt8) ∉ (shutK n).data.toList ∧ (kText n 2).size ≤ 600 := by decide +kernel
theorem star_in (n b : Nat) : (⟨((openK n).data.toList ++ (baseK b).data.toList ++ (shutK n).data.toList).toArray⟩ : ByteArray) = kText n b := by
  have h : (kText n b).data.toList = (openK n).data.toList ++ (baseK b).data.toList ++ (shutK n).data.toList := by simp [kText, ByteArray.data_append]
  rw [← h]
theorem star_no : ∀ n < 4, ∀ j < 2, (42 : UInt8) ∉ (kText n j).data.toList := by decide +kernel
theorem base_ne : ∀ b < 2, ([42] == (baseK b).toList) = false ∧ (baseK b).size ≤ 600 := by decide +kernel
theorem put_is (n j b : Nat) (hn : n < 4) (hj : j < 3) (hb : b < 2) : ∃ k, k < 2 ∧ ∀ w, Calls Tryz.prog 23 #[.string (kText n j), .string ⟨#[42]⟩, .string (baseK b)] w fun e w' => e = .returned (.string (kText n k)) ∧ Below w.heap.size w w' := by
  obtain ⟨h1, h2⟩ := base_ne b hb
  by_cases h : j = 2
  · subst h
    obtain ⟨g1, g2, g3⟩ := star_out n hn
    refine ⟨b, hb, fun w => replaceAll_of _ _ _ w ?_⟩
    have := replace_neg (kText n 2) (baseK b) _ _ (star_text n hn) g1 g2 g3 h2 h1 w
    rw [star_in] at this
    exact this
  · exact ⟨j, by omega, fun w => replaceAll_of _ _ _ w (replace_absent _ _ (star_no n hn j (by omega)) h1 w)⟩

theorem dg_made1 (W : World) (s : ByteArray) (c : Int) (hs : s.size ≤ maxLen) : ∃ W1, Hid (W.alloc (.cells #[.string s, .int .i64 c] 53) = W1) ∧ Below W.heap.size W W1 ∧ SlAt (fun b => b < W1.heap.size) (DgAt W1) 2 [⟨s, c⟩] (.slice (some ⟨W.heap.size, 0, none⟩) 1 1) :=
  ⟨_, rfl, (Below.refl _ _).alloc (Nat.le_refl _) _, _, _, rfl, ⟨by simp [maxLen], by simp⟩, Or.inr ⟨_, _, rfl, by simp, ⟨⟨by simp [go_sem], hs⟩, by simp [go_sem]⟩, trivial⟩⟩
theorem dg_made2 (W : World) (s t : ByteArray) (c d : Int) (hs : s.size ≤ maxLen) (ht : t.size ≤ maxLen) : ∃ W1, Hid (W.alloc (.cells #[.string s, .int .i64 c, .string t, .int .i64 d] 53) = W1) ∧ Below W.heap.size W W1 ∧ SlAt (fun b => b < W1.heap.size) (DgAt W1) 2 [⟨s, c⟩, ⟨t, d⟩] (.slice (some ⟨W.heap.size, 0, none⟩) 2 2) :=
  ⟨_, rfl, (Below.refl _ _).alloc (Nat.le_refl _) _, _, _, rfl, ⟨by simp [maxLen], by simp⟩, Or.inr ⟨_, _, rfl, by simp, ⟨⟨by simp [go_sem], hs⟩, by simp [go_sem]⟩, ⟨⟨by simp [go_sem], ht⟩, by simp [go_sem]⟩, trivial⟩⟩

theorem box_cells {W w1 : World} {a b c d : Value} {T : TypeId} (hb : Below (W.alloc (.cells #[a, b, c, d] T)).heap.size (W.alloc (.cells #[a, b, c, d] T)) w1) :
    w1.cell? ⟨W.heap.size, 0, none⟩ = some a ∧ w1.cell? ⟨W.heap.size, 1, none⟩ = some b ∧ w1.cell? ⟨W.heap.size, 2, none⟩ = some c ∧ w1.cell? ⟨W.heap.size, 3, none⟩ = some d := by
  refine ⟨?_, ?_, ?_, ?_⟩
  · rw [hb.cell (p := ⟨W.heap.size, 0, none⟩) (by simp), World.cell?_alloc_new]; rfl
  · rw [hb.cell (p := ⟨W.heap.size, 1, none⟩) (by simp), World.cell?_alloc_new]; rfl
  · rw [hb.cell (p := ⟨W.heap.size, 2, none⟩) (by simp), World.cell?_alloc_new]; rfl
  · rw [hb.cell (p := ⟨W.heap.size, 3, none⟩) (by simp), World.cell?_alloc_new]; rfl

end Go.Proofs.YtagbaimfigljiaaGreatDoor
namespace Go.Proofs.YtagbaimfigljiaaGreatDoor
open Go.RowKit
set_option maxRecDepth 100000

def aliasText (x : ByteArray) : ByteArray := (⟨#[116, 121, 112, 101, 32, 97, 32, 61, 32, 98, 10, 116, 121, 112, 101, 32, 98, 32, 61, 32]⟩ : ByteArray) ++ x ++ (⟨#[10, 116, 121, 112, 101, 32, 114, 49, 32, 61, 32, 91, 114, 50, 93, 10, 116, 121, 112, 101, 32, 114, 50, 32, 61, 32, 114, 49, 10, 116, 121, 112, 101, 32, 120, 32, 61, 32, 110, 111, 110, 101, 10, 116, 121, 112, 101, 32, 98, 32, 61, 32, 105, 110, 116, 10, 102, 117, 110, 99, 32, 102, 117, 110, 40, 112, 58, 32, 97, 41, 58, 32, 98, 32, 61, 32, 112, 10, 102, 117, 110, 99, 32, 98, 97, 100, 40, 112, 58, 32, 114, 49, 41, 58, 32, 105, 110, 116, 32, 61, 32, 49, 10, 102, 117, 110, 99, 32, 103, 111, 110, 101, 40, 112, 58, 32, 120, 41, 58, 32, 105, 110, 116, 32, 61, 32, 49, 10]⟩ : ByteArray)
def aliasL0 : ByteArray := (⟨#[116, 121, 112, 101, 32, 97, 32, 61, 32, 98]⟩ : ByteArray)
def aliasL1 (x : ByteArray) : ByteArray := (⟨#[116, 121, 112, 101, 32, 98, 32, 61, 32]⟩ : ByteArray) ++ x
def aliasL2 : ByteArray := (⟨#[116, 121, 112, 101, 32, 114, 49, 32, 61, 32, 91, 114, 50, 93]⟩ : ByteArray)
def aliasL3 : ByteArray := (⟨#[116, 121, 112, 101, 32, 114, 50, 32, 61, 32, 114, 49]⟩ : ByteArray)
def aliasL4 : ByteArray := (⟨#[116, 121, 112, 101, 32, 120, 32, 61, 32, 110, 111, 110, 101]⟩ : ByteArray)
def aliasL5 : ByteArray := (⟨#[116, 121, 112, 101, 32, 98, 32, 61, 32, 105, 110, 116]⟩ : ByteArray)
def aliasL6 : ByteArray := (⟨#[102, 117, 110, 99, 32, 102, 117, 110, 40, 112, 58, 32, 97, 41, 58, 32, 98, 32, 61, 32, 112]⟩ : ByteArray)
def aliasL7 : ByteArray := (⟨#[102, 117, 110, 99, 32, 98, 97, 100, 40, 112, 58, 32, 114, 49, 41, 58, 32, 105, 110, 116, 32, 61, 32, 49]⟩ : ByteArray)
def aliasL8 : ByteArray := (⟨#[102, 117, 110, 99, 32, 103, 111, 110, 101, 40, 112, 58, 32, 120, 41, 58, 32, 105, 110, 116, 32, 61, 32, 49]⟩ : ByteArray)
def aliasL9 : ByteArray := (⟨#[]⟩ : ByteArray)
theorem alias_lines {x : ByteArray} (hx : (10 : UInt8) ∉ x.data.toList) : linesOf (aliasText x) = [aliasL0, (aliasL1 x), aliasL2, aliasL3, aliasL4, aliasL5, aliasL6, aliasL7, aliasL8, aliasL9] := by
  have h : (aliasText x).data.toList = aliasL0.data.toList ++ 10 :: ((aliasL1 x).data.toList ++ 10 :: (aliasL2.data.toList ++ 10 :: (aliasL3.data.toList ++ 10 :: (aliasL4.data.toList ++ 10 :: (aliasL5.data.toList ++ 10 :: (aliasL6.data.toList ++ 10 :: (aliasL7.data.toList ++ 10 :: (aliasL8.data.toList ++ 10 :: (aliasL9.data.toList))))))))) := by simp [aliasText, ByteArray.data_append, aliasL0, aliasL1, aliasL2, aliasL3, aliasL4, aliasL5, aliasL6, aliasL7, aliasL8, aliasL9]
  rw [lines_toB, h, splitL_hit _ _ (by simp [aliasL0]), splitL_hit _ _ (by simp [aliasL1, ByteArray.data_append, hx]), splitL_hit _ _ (by simp [aliasL2]), splitL_hit _ _ (by simp [aliasL3]), splitL_hit _ _ (by simp [aliasL4]), splitL_hit _ _ (by simp [aliasL5]), splitL_hit _ _ (by simp [aliasL6]), splitL_hit _ _ (by simp [aliasL7]), splitL_hit _ _ (by simp [aliasL8]), splitL_miss _ (by simp [aliasL9])]
  simp only [List.map_cons, List.map_nil, toB_data]
theorem aliasR0 : lineRes aliasL0 = .ok (.typ ⟨⟨#[97]⟩, (tN ⟨#[98]⟩)⟩) := by kernel_rfl
set_option maxHeartbeats 40000000 in
theorem aliasR1 : ∀ n < 4, ∀ j < 2, lineRes (aliasL1 (kText n j)) = .ok (.typ ⟨⟨#[98]⟩, (tyK n j)⟩) := by
  intro n hn j hj
  obtain rfl | rfl | rfl | rfl : n = 0 ∨ n = 1 ∨ n = 2 ∨ n = 3 := by omega
  all_goals obtain rfl | rfl : j = 0 ∨ j = 1 := by omega
  all_goals kernel_rfl
theorem aliasR2 : lineRes aliasL2 = .ok (.typ ⟨⟨#[114, 49]⟩, (tL (tN ⟨#[114, 50]⟩))⟩) := by kernel_rfl
theorem aliasR3 : lineRes aliasL3 = .ok (.typ ⟨⟨#[114, 50]⟩, (tN ⟨#[114, 49]⟩)⟩) := by kernel_rfl
theorem aliasR4 : lineRes aliasL4 = .ok (.typ ⟨⟨#[120]⟩, (tN ⟨#[110, 111, 110, 101]⟩)⟩) := by kernel_rfl
theorem aliasR5 : lineRes aliasL5 = .ok (.typ ⟨⟨#[98]⟩, tI⟩) := by kernel_rfl
theorem aliasR6 : lineRes aliasL6 = .ok (.fn ⟨⟨#[102, 117, 110]⟩, ⟨#[]⟩, [⟨⟨#[112]⟩, (tN ⟨#[97]⟩)⟩], (tN ⟨#[98]⟩), (exParam ⟨#[112]⟩)⟩) := by kernel_rfl
theorem aliasR7 : lineRes aliasL7 = .ok (.fn ⟨⟨#[98, 97, 100]⟩, ⟨#[]⟩, [⟨⟨#[112]⟩, (tN ⟨#[114, 49]⟩)⟩], tI, (exNum ⟨#[49]⟩)⟩) := by kernel_rfl
theorem aliasR8 : lineRes aliasL8 = .ok (.fn ⟨⟨#[103, 111, 110, 101]⟩, ⟨#[]⟩, [⟨⟨#[112]⟩, (tN ⟨#[120]⟩)⟩], tI, (exNum ⟨#[49]⟩)⟩) := by kernel_rfl
theorem aliasR9 : lineRes aliasL9 = .ok (.none) := by kernel_rfl
def aliasMo (tx : Ty) : Mo := ⟨[], [⟨⟨#[97]⟩, (tN ⟨#[98]⟩)⟩, ⟨⟨#[98]⟩, tx⟩, ⟨⟨#[114, 49]⟩, (tL (tN ⟨#[114, 50]⟩))⟩, ⟨⟨#[114, 50]⟩, (tN ⟨#[114, 49]⟩)⟩, ⟨⟨#[120]⟩, (tN ⟨#[110, 111, 110, 101]⟩)⟩, ⟨⟨#[98]⟩, tI⟩], [⟨⟨#[102, 117, 110]⟩, ⟨#[]⟩, [⟨⟨#[112]⟩, (tN ⟨#[97]⟩)⟩], (tN ⟨#[98]⟩), (exParam ⟨#[112]⟩)⟩, ⟨⟨#[98, 97, 100]⟩, ⟨#[]⟩, [⟨⟨#[112]⟩, (tN ⟨#[114, 49]⟩)⟩], tI, (exNum ⟨#[49]⟩)⟩, ⟨⟨#[103, 111, 110, 101]⟩, ⟨#[]⟩, [⟨⟨#[112]⟩, (tN ⟨#[120]⟩)⟩], tI, (exNum ⟨#[49]⟩)⟩]⟩
theorem alias_may : ∀ n < 4, ∀ j < 2, moFault (aliasMo (tyK n j)) = 0 := by decide +kernel
theorem alias_size {x : ByteArray} (hx : x.size ≤ 10) : ¬ 1500 < (aliasText x).size := by
  have e : (aliasText x).size = 20 + x.size + 128 := by simp only [aliasText, ByteArray.size_append]; rfl
  omega
theorem alias_read (n : Nat) (hn : n < 4) (j : Nat) (hj : j < 2) : chkBads (aliasText (kText n j)) [] = wrongR (aliasMo (tyK n j)) [] (ownR (aliasMo (tyK n j)) []) ∧ chkFace (aliasText (kText n j)) [] = ownR (aliasMo (tyK n j)) [] := by
  obtain ⟨h1, h2⟩ := kText_line n hn j hj
  have hz := alias_size h2
  have h0 := alias_may n hn j hj
  have hr : readAll (linesOf (aliasText (kText n j))) noMo = .ok (aliasMo (tyK n j)) := by
    rw [alias_lines h1]
    simp only [readAll, aliasR0, aliasR1 n hn j hj, aliasR2, aliasR3, aliasR4, aliasR5, aliasR6, aliasR7, aliasR8, aliasR9]
    rfl
  have he : readErr (aliasText (kText n j)) = 0 := by unfold readErr; rw [if_neg hz, hr]; exact h0
  have hm : readMo (aliasText (kText n j)) = aliasMo (tyK n j) := by unfold readMo; rw [if_neg hz, hr]; exact if_pos h0
  unfold chkBads chkFace
  rw [ims_none, if_pos rfl, he, if_pos rfl, hm, if_pos rfl, if_pos rfl]
  exact ⟨rfl, rfl⟩
set_option maxHeartbeats 40000000 in
theorem alias_wrong : ∀ n < 4, ∀ j < 2, eqL dgEq (wrongR (aliasMo (tyK n j)) [] (ownR (aliasMo (tyK n j)) [])) [⟨⟨#[114, 49]⟩, 2⟩, ⟨⟨#[114, 50]⟩, 2⟩, ⟨⟨#[120]⟩, 5⟩, ⟨⟨#[98]⟩, 4⟩, ⟨⟨#[98, 97, 100]⟩, 2⟩, ⟨⟨#[103, 111, 110, 101]⟩, 5⟩] = true := by decide +kernel
set_option maxHeartbeats 40000000 in
theorem alias_types : ∀ n < 4, ∀ j < 2, typeErr (ownR (aliasMo (tyK n j)) []) ⟨#[97]⟩ = 0 ∧ sEq (typeVal (ownR (aliasMo (tyK n j)) []) ⟨#[97]⟩) (kText n j) = true ∧ typeErr (ownR (aliasMo (tyK n j)) []) ⟨#[114, 49]⟩ = 6 := by decide +kernel
set_option maxHeartbeats 40000000 in
theorem alias_func : ∀ n < 4, ∀ j < 2, funcErr (ownR (aliasMo (tyK n j)) []) ⟨#[102, 117, 110]⟩ = 0 ∧ eqL sEq (funcVal (ownR (aliasMo (tyK n j)) []) ⟨#[102, 117, 110]⟩).params [kText n j] = true ∧ sEq (funcVal (ownR (aliasMo (tyK n j)) []) ⟨#[102, 117, 110]⟩).result (kText n j) = true := by decide +kernel

end Go.Proofs.YtagbaimfigljiaaGreatDoor
namespace Go.Proofs.YtagbaimfigljiaaGreatDoor
open Go.RowKit
set_option maxRecDepth 100000

theorem alias_parts : ∀ n < 4, ∀ j < 2, (∀ f ∈ (aliasMo (tyK n j)).types, f.name.size ≤ 8) ∧ (∀ f ∈ (aliasMo (tyK n j)).funcs, f.name.size ≤ 8 ∧ f.params.length ≤ 8) ∧ (aliasMo (tyK n j)).types.length + (aliasMo (tyK n j)).funcs.length ≤ 24 := by decide +kernel
theorem alias_small (n : Nat) (hn : n < 4) (j : Nat) (hj : j < 2) : fcSmall (ownR (aliasMo (tyK n j)) []) :=
  have h := alias_parts n hn j hj
  own_small (fun _ h => by cases h) h.1 h.2.1 h.2.2
def aliasDs : List Dg := [⟨⟨#[114, 49]⟩, 2⟩, ⟨⟨#[114, 50]⟩, 2⟩, ⟨⟨#[120]⟩, 5⟩, ⟨⟨#[98]⟩, 4⟩, ⟨⟨#[98, 97, 100]⟩, 2⟩, ⟨⟨#[103, 111, 110, 101]⟩, 5⟩]
theorem str_made1 (W : World) (s : ByteArray) (hs : s.size ≤ maxLen) : ∃ W1, Hid (W.alloc (.cells #[.string s] 9) = W1) ∧ Below W.heap.size W W1 ∧ SlAt (fun b => b < W1.heap.size) (StrAt W1) 1 [s] (.slice (some ⟨W.heap.size, 0, none⟩) 1 1) :=
  ⟨_, rfl, (Below.refl _ _).alloc (Nat.le_refl _) _, _, _, rfl, ⟨by simp [maxLen], by simp⟩, Or.inr ⟨_, _, rfl, by simp, ⟨by simp [go_sem], hs⟩, trivial⟩⟩
theorem dg_cells {W : World} {b o : Nat} {s : ByteArray} {c : Int} (h : W.cell? ⟨b, o, none⟩ = some (.string s)) (g : W.cell? ⟨b, o + 1, none⟩ = some (.int .i64 c)) (hs : s.size ≤ 9) : DgAt W ⟨s, c⟩ b o := ⟨⟨h, Nat.le_trans hs (by unfold maxLen; omega)⟩, g⟩
theorem dg_made6 (W : World) : ∃ W1, Hid (W.alloc (.cells #[.string ⟨#[114, 49]⟩, .int .i64 2, .string ⟨#[114, 50]⟩, .int .i64 2, .string ⟨#[120]⟩, .int .i64 5, .string ⟨#[98]⟩, .int .i64 4, .string ⟨#[98, 97, 100]⟩, .int .i64 2, .string ⟨#[103, 111, 110, 101]⟩, .int .i64 5] 53) = W1) ∧ Below W.heap.size W W1 ∧ SlAt (fun b => b < W1.heap.size) (DgAt W1) 2 aliasDs (.slice (some ⟨W.heap.size, 0, none⟩) 6 6) :=
  ⟨_, rfl, (Below.refl _ _).alloc (Nat.le_refl _) _, _, _, rfl, ⟨by simp [maxLen, aliasDs], by simp [aliasDs]⟩, Or.inr ⟨_, _, rfl, by simp, dg_cells (by simp [go_sem]) (by simp [go_sem]) (by decide), dg_cells (by simp [go_sem]) (by simp [go_sem]) (by decide), dg_cells (by simp [go_sem]) (by simp [go_sem]) (by decide), dg_cells (by simp [go_sem]) (by simp [go_sem]) (by decide), dg_cells (by simp [go_sem]) (by simp [go_sem]) (by decide), dg_cells (by simp [go_sem]) (by simp [go_sem]) (by decide), trivial⟩⟩

end Go.Proofs.YtagbaimfigljiaaGreatDoor
