/- What the reference's OrderOf answers: what graph.Order does. -/
import Derived.Test.YtedpiamfpbdhoaaGrLeads
import Derived.Test.YtedpiamfpbdhoaaGrFault
import Derived.Deep.RegionWith
import Derived.OwnWalk
namespace Go.Proofs.Ytedpiamfpbdhoaa
open Go.RowKit

theorem namL_iff {l : List Nd} {p : Nat → Bool} {s : ByteArray} : ∀ {k : Nat}, s ∈ namL l p k ↔ ∃ i, i < k ∧ p i = true ∧ s = nmN l i
  | 0 => by simp [namL]
  | k + 1 => by
    unfold namL
    rw [List.mem_append, namL_iff]
    constructor
    · rintro (⟨i, h1, h2⟩ | h)
      · exact ⟨i, by omega, h2⟩
      · by_cases hp : p k = true
        · rw [if_pos hp] at h
          exact ⟨k, by omega, hp, by simpa using h⟩
        · rw [if_neg hp] at h; cases h
    · rintro ⟨i, h1, h2, h3⟩
      by_cases hik : i = k
      · subst hik
        exact .inr (by rw [if_pos h2]; simpa using h3)
      · exact .inl ⟨i, by omega, h2, h3⟩
theorem has_nam {l : List Nd} (ha : Alone l) {p : Nat → Bool} {u : ByteArray} : hasS (namL l p l.length) u = (decide (posN l u < l.length) && p (posN l u)) := by
  rw [Bool.eq_iff_iff, has_iff, namL_iff, Bool.and_eq_true, decide_eq_true_eq]
  constructor
  · rintro ⟨i, hi, hp, rfl⟩
    rw [nmN_at hi, pos_of ha hi]
    exact ⟨hi, hp⟩
  · rintro ⟨h1, h2⟩
    exact ⟨_, h1, h2, by rw [nmN_at h1, pos_is h1]⟩
theorem has_told {l : List Nd} (ha : Alone l) {out : List Nat} (ho : ∀ i ∈ out, i < l.length) {u : ByteArray} : hasS (told l out) u = (decide (posN l u < l.length) && inL out (posN l u)) := by
  rw [Bool.eq_iff_iff, has_iff, Bool.and_eq_true, decide_eq_true_eq]
  simp only [told, List.mem_reverse, List.mem_map]
  constructor
  · rintro ⟨i, hi, rfl⟩
    have h := ho i hi
    rw [nmN_at h, pos_of ha h]
    exact ⟨h, inL_iff.2 hi⟩
  · rintro ⟨h1, h2⟩
    exact ⟨_, inL_iff.1 h2, by rw [nmN_at h1, pos_is h1]⟩

/-- is what is used no node, or a round, or told? as the reference asks. -/
def okU (al rs out : List ByteArray) (u : ByteArray) : Bool := !hasS al u || (hasS rs u || hasS out u)
theorem all_ok {l : List Nd} (ha : Alone l) {rd : Nat → Bool} {out : List Nat} (ho : ∀ i ∈ out, i < l.length) {us : List ByteArray} :
    ((us.map (posN l)).all fun j => decide (l.length ≤ j) || (rd j || inL out j)) = us.all (okU (namL l (fun _ => true) l.length) (namL l rd l.length) (told l out)) := by
  induction us with
  | nil => rfl
  | cons u r ih =>
    rw [List.map_cons, List.all_cons, List.all_cons, ih]
    congr 1
    unfold okU
    rw [has_nam ha, has_nam ha, has_told ha ho]
    by_cases h : posN l u < l.length
    · have : ¬ l.length ≤ posN l u := by omega
      simp [h, this]
    · have : l.length ≤ posN l u := by omega
      simp [h, this]
theorem rdy_ref {l : List Nd} (ha : Alone l) {rd : Nat → Bool} {out : List Nat} (ho : ∀ i ∈ out, i < l.length) {i : Nat} (hi : i < l.length) :
    rdyB l.length (grE l) rd out i = ((!hasS (namL l rd l.length) l[i].name && !hasS (told l out) l[i].name) && l[i].uses.all (okU (namL l (fun _ => true) l.length) (namL l rd l.length) (told l out))) := by
  unfold rdyB
  rw [has_nam ha, has_told ha ho, pos_of ha hi, grE_at hi, all_ok ha ho]
  simp [hi]
theorem nxt_at {n : Nat} {E : Nat → List Nat} {rd : Nat → Bool} {out : List Nat} {i : Nat} (hi : i < n) (h : rdyB n E rd out i = true) (hb : ∀ k, k < i → rdyB n E rd out k = false) : nxt n E rd out = some i := by
  unfold nxt
  rw [List.find?_range_eq_some]
  exact ⟨h, List.mem_range.2 hi, fun k hk => by rw [hb k hk]; rfl⟩
theorem nxt_nothing {n : Nat} {E : Nat → List Nat} {rd : Nat → Bool} {out : List Nat} (hb : ∀ k, k < n → rdyB n E rd out k = false) : nxt n E rd out = none := by
  unfold nxt
  rw [List.find?_eq_none]
  intro k hk
  rw [hb k (List.mem_range.1 hk)]; simp

def PartT (v u : Value) : Prop := ∀ j, v.ownBlock = some j → u.ownBlock ≠ some j
theorem PartT.grow {v u : Value} {g a m c H : Nat} (h : PartT v u) (hv : ∀ j, v.ownBlock = some j → j < H) (hat : u.ownBlock = some g ∨ g = H) : PartT v (.slice (some ⟨g, a, none⟩) m c) := fun j hj hu => by
  have e : g = j := by simpa [Value.ownBlock] using hu
  subst e
  rcases hat with h1 | h1
  · exact h g hj h1
  · have := hv g hj; omega
theorem PartT.symm {v u : Value} (h : PartT v u) : PartT u v := fun j hj hv => h j hv hj
theorem ownsTx_grown {w w' : World} {B : Nat} {u : Value} {n : Nat} {xs : List Value} {row : Option Nat} (h : w.ownsRow B 9 1 u n xs) (hg : w.grownBy w' row) (hr : ∀ j, u.ownBlock = some j → row ≠ some j) : w'.ownsRow B 9 1 u n xs := by
  obtain ⟨hx, ⟨hv, hn⟩ | ⟨g, cap, cur, hv, hb, hh, h1⟩⟩ := h
  · exact ⟨hx, Or.inl ⟨hv, hn⟩⟩
  · refine ⟨hx, Or.inr ⟨g, cap, cur, hv, hb, ?_, h1⟩⟩
    rw [hg.block g ?_ (fun e => hr g (by rw [hv]; rfl) e.symm)]
    · exact hh
    · rcases Nat.lt_or_ge g w.heap.size with h | h
      · exact h
      · rw [Array.getElem?_eq_none h] at hh
        cases hh

theorem nds_uses {l : List Nd} (h : ndsFault l = 0) : ∀ d ∈ l, d.uses.length ≤ 24 ∧ ∀ u ∈ d.uses, u.size ≤ 8 := by
  unfold ndsFault at h
  by_cases h10 : 10 < (l.length : Int)
  · rw [if_pos h10] at h; exact absurd h (by decide)
  · rw [if_neg h10] at h
    intro d hd
    have := (order_all (fun _ h => h) h d hd).2
    have hok : ndOk d = true := by
      unfold ndFault bad4 at this
      by_cases hx : ndOk d = true
      · exact hx
      · rw [if_neg hx] at this; exact absurd this (by decide)
    unfold ndOk at hok
    simp only [Bool.and_eq_true, decide_eq_true_eq, List.all_eq_true] at hok
    refine ⟨hok.2.1, fun u hu => ?_⟩
    have hi := hok.2.2 u hu
    have hw : wordOk u = true := by
      unfold identOk at hi
      simp only [Bool.and_eq_true] at hi
      exact hi.1
    by_cases hs : 1 ≤ u.size ∧ u.size ≤ 8
    · omega
    · rw [word_long _ hs] at hw; cases hw

set_option maxRecDepth 100000 in
set_option maxHeartbeats 40000000 in
theorem orderOf_any (S : Nat → Prop) (l : List Nd) (v : Value) (w : World) (hS : ∀ b, S b → b < w.heap.size) (hv : SlAt S (NdAt S w) 2 l v) :
    Calls Try.prog 8 #[v] w fun e w' => ∃ vf vl, e = .returned (.tuple #[vf, vl, .int .i64 (ordN l).2.2]) ∧ SlAt (fun b => w.heap.size ≤ b ∧ b < w'.heap.size) (StrAt w') 1 (ordN l).1 vf ∧ SlAt (fun b => w.heap.size ≤ b ∧ b < w'.heap.size) (StrAt w') 1 (ordN l).2.1 vl ∧ Below w.heap.size w w' := by
  have HC : Hid (Calls Try.prog 6 #[v] w fun e w' => e = .returned (.int .i64 (ndsFault l)) ∧ Below w.heap.size w w') := nodesFault_any S l _ w hS hv
  have HL := veil hv
  have hlen := hv.len
  unfold maxLen at hlen
  obtain ⟨la, lc, rfl⟩ := hv.is
  clear hv
  have HE : Hid (ordN l = if ndsFault l = 0 then (((ordAll l.length (grE l) (rdB l.length (grE l))).map (nmN l)).reverse, namL l (rdB l.length (grE l)) l.length, 0) else ([], [], ndsFault l)) := rfl
  by_cases hf : ndsFault l = 0
  case neg =>
    have HE' : Hid (ordN l = ([], [], ndsFault l)) := HE.out.trans (if_neg hf)
    clear HE HL
    generalize ordN l = r at *
    generalize ndsFault l = er at *
    have hf' : (er != 0) = true := by simpa using hf
    clear hf
    go_enter Try.func8, Try.ntmps8
    go_wp2_with fail
    refine HC.out.mono ?_
    rintro e w1 ⟨rfl, hb1⟩
    have HB1 := veil hb1
    clear hb1
    go_wp2_with fail
    go_ret3
    rw [HE'.out]
    exact ⟨_, _, rfl, ⟨none, 0, rfl, ⟨by simp, by simp⟩, Or.inl rfl⟩, ⟨none, 0, rfl, ⟨by simp, by simp⟩, Or.inl rfl⟩, HB1.out⟩
  have hsm := nds_small hf
  have h10 := hsm.1
  have HN8 := veil hsm.2
  have HAl := veil (nds_alone hf)
  have HUs := veil (nds_uses hf)
  have HLd : Hid (∀ k (hk : k < l.length) W, Below w.heap.size w W → Calls Try.prog 17 #[.slice la l.length lc, .string l[k].name, .string l[k].name, .int .i64 12] W fun e w' => e = .returned (.bool (rdB l.length (grE l) k)) ∧ Below W.heap.size W w') := fun k hk W hW => by
    have := leadsTo_any S l l[k].name l[k].name _ W (fun b hb => Nat.lt_of_lt_of_le (hS b hb) hW.size) (ndSl_keep (Keeps.below hW hS) HL.out) h10 (fun d hd => (HUs.out d hd).1) (fun d hd => (HUs.out d hd).2) (HN8.out _ (List.getElem_mem hk))
    rw [lead_rd hf hk] at this
    exact this
  have HE' : Hid (ordN l = (told l (ordAll l.length (grE l) (rdB l.length (grE l))), namL l (rdB l.length (grE l)) l.length, 0)) := HE.out.trans (if_pos hf)
  rw [hf] at HC
  clear HE hf hsm
  generalize rdB l.length (grE l) = rd at *
  have HNz : Hid (∀ p k, ∀ s ∈ namL l p k, s.size ≤ maxLen) := fun p k => namL_size (fun d hd => by have := HN8.out d hd; unfold maxLen; omega) k
  have HTz : Hid (∀ out, ∀ s ∈ told l out, s.size ≤ maxLen) := told_size (fun d hd => by have := HN8.out d hd; omega)
  obtain ⟨i0, hi, hz0, hz1, hz2⟩ := info_parts str_info
  have HI0 := veil hi
  have HZ0 := veil hz0
  have HZ1 := veil hz1
  have HZ2 := veil hz2
  clear hi hz0 hz1 hz2
  generalize ordN l = r at *
  go_enter Try.func8, Try.ntmps8
  go_wp2_with fail
  refine HC.out.mono ?_
  rintro e w1 ⟨rfl, hb1⟩
  have HB1 := veil hb1
  clear hb1 HC
  go_wp2_with fail
  go_loopw [6, 7, 8] (fun av rv iv wr => ∃ k : Nat, k ≤ l.length ∧ iv = .int .i64 k ∧ wr.ownsRow w.heap.size 9 1 av (namL l (fun _ => true) k).length (txVals (namL l (fun _ => true) k)) ∧ wr.ownsRow w.heap.size 9 1 rv (namL l rd k).length (txVals (namL l rd k)) ∧ PartT av rv ∧ Below w.heap.size w wr) (fun _ _ i _ => l.length - (intOf i).toNat)
  case atStart => exact ⟨0, Nat.zero_le _, rfl, World.ownsRow_nil _ _ _ _, World.ownsRow_nil _ _ _ _, (fun j hj => by cases hj), HB1.out⟩
  case round =>
    clear HB1
    obtain ⟨k, hk, rfl, hownA, hownR, hpar, hbl⟩ := hrel
    have HOwnA := veil hownA
    have HOwnR := veil hownR
    have HPar := veil hpar
    have HBl := veil hbl
    have hszr := hbl.size
    have hleA := namL_le l (fun _ => true) k
    have hleR := namL_le l rd k
    clear hpar
    by_cases hlt : k < l.length
    · have hlt' : (k : Int) < (l.length : Int) := by omega
      have hk0 : (0 : Int) ≤ (k : Int) := by omega
      obtain ⟨_, b, off, rfl, hb, hat⟩ := HL.out.at hlt
      obtain ⟨a1, cap1, c0, m0, c1, hu⟩ := nd_cells hat
      have hbk := hS b hb
      have HD0 : Hid (∀ W, Below w.heap.size w W → W.cell? ⟨b, off + k * 2, none⟩ = some (.string l[k].name)) := fun W hW => (hW.cell (p := ⟨b, off + k * 2, none⟩) hbk).trans c0
      have d0 := HD0.out _ hbl
      have HNA : Hid (namL l (fun _ => true) (k + 1) = namL l (fun _ => true) k ++ [l[k].name]) := by show _ = _; rw [namL, if_pos rfl, nmN_at hlt]
      have HNR : Hid (namL l rd (k + 1) = namL l rd k ++ (if rd k = true then [l[k].name] else [])) := by show _ = _; rw [namL, nmN_at hlt]
      have HLk := veil (HLd.out k hlt)
      have hbr : b < wr.heap.size := Nat.lt_of_lt_of_le hbk hszr
      have HGr : Hid (∀ w' g cap m, (wr.alloc (.cells #[.string l[k].name] 9)).grownBy w' (Value.ownBlock u6) → (u6.ownBlock = some g ∨ g = wr.heap.size + 1) → Below w.heap.size w w' ∧ w'.ownsRow w.heap.size 9 1 u7 (namL l rd k).length (txVals (namL l rd k)) ∧ PartT u7 (.slice (some ⟨g, 0, none⟩) m cap)) := fun w' g cap m hg hat => by
        have hrow := ownsTx_at HOwnA.out
        refine ⟨(HBl.out.alloc hszr _).grown hg (by simp; omega) (fun q hq => hrow q hq), ownsTx_grown (HOwnR.out.alloc _) hg (fun j hj he => HPar.out j he hj), PartT.grow HPar.out.symm (fun j hj => ?_) hat⟩
        have := ownsTx_lt HOwnR.out j hj
        omega
      clear c0 c1 m0 hat hu HLd hbl hownA hownR hbk hb HL
      generalize hnm : l[k].name = x at *
      clear hnm
      go_wp2_with (at_builtin; refine wpList_append_lies _ rfl _ _ 26 rfl w.heap.size 9 i0 (.string ⟨#[]⟩) 1 16 Try.underlying26 HI0.out HZ0.out HZ1.out HZ2.out rfl (by decide) _ _ _ rfl (HOwnA.out.alloc _) ⟨wr.heap.size, 0, none⟩ 1 1 [.string x] rfl rfl (tx_new _ _) (tx_one _) (by decide) (by unfold maxLen; omega) (by omega) (by simp; omega) (wr.heap.size + 1) (by simp) ?_)
      intro g5 cap5 w5 hown5 hgrow5 hat5 hlt5
      all_goals
        obtain ⟨hb5, ho5, hp5⟩ := HGr.out _ _ cap5 ((namL l (fun _ => true) k).length + 1) hgrow5 hat5
        have HB5 := veil hb5
        have HR5 := veil ho5
        have HP5 := veil hp5
        have hsz5 := hb5.size
        have HO5 : Hid (w5.ownsRow w.heap.size 9 1 (.slice (some ⟨g5, 0, none⟩) ((namL l (fun _ => true) k).length + 1) cap5) (namL l (fun _ => true) (k + 1)).length (txVals (namL l (fun _ => true) (k + 1)))) := by
          show w5.ownsRow _ _ _ _ _ _
          rw [HNA.out, tx_snoc, List.length_append]
          exact hown5
        have e0 := HD0.out _ hb5
        have hb5l : b < w5.heap.size := World.block_lt_of_cell? _ _ e0
        clear hown5 hgrow5 hat5 hlt5 hb5 ho5 hp5 d0 HGr HOwnA HOwnR HPar
        generalize (namL l (fun _ => true) k).length = na at *
        go_wp2_with fail
        go_region_with (go_at_call 17; refine (HLk.out _ (HB5.out.trans (Below.mono (Below.drew (Below.refl _ _)) HB5.out.size))).mono ?_; rintro e w6 ⟨rfl, hb6⟩)
        all_goals
          have hb56 := (Below.drew (Below.refl w5.heap.size w5)).trans (hb6.mono (Nat.le_refl _))
          have HB6 := veil (HB5.out.trans (hb56.mono HB5.out.size))
          have HO6 := veil (ownsTx_later HO5.out hb56)
          have HR6 := veil (ownsTx_later HR5.out hb56)
          have d6 := HD0.out _ HB6.out
          have hsz6 := HB6.out.size
          have hbl6 : b < w6.heap.size := World.block_lt_of_cell? _ _ d6
          clear hb6 hb56 HB5 HO5 HR5 e0 HLk
          cases hrk : rd k with
          | true =>
            have HNR' : Hid (namL l rd (k + 1) = namL l rd k ++ [x]) := by show _ = _; rw [HNR.out, hrk, if_pos rfl]
            have HGr7 : Hid (∀ w' g cap m, (w6.alloc (.cells #[.string x] 9)).grownBy w' (Value.ownBlock u7) → (u7.ownBlock = some g ∨ g = w6.heap.size + 1) → Below w.heap.size w w' ∧ w'.ownsRow w.heap.size 9 1 (.slice (some ⟨g5, 0, none⟩) (na + 1) cap5) (namL l (fun _ => true) (k + 1)).length (txVals (namL l (fun _ => true) (k + 1))) ∧ PartT (.slice (some ⟨g5, 0, none⟩) (na + 1) cap5) (.slice (some ⟨g, 0, none⟩) m cap)) := fun w' g cap m hg hat => by
              have hrow := ownsTx_at HR6.out
              refine ⟨(HB6.out.alloc hsz6 _).grown hg (by simp; omega) (fun q hq => hrow q hq), ownsTx_grown (HO6.out.alloc _) hg (fun j hj he => HP5.out j he hj), PartT.grow HP5.out.symm (fun j hj => ?_) hat⟩
              have := ownsTx_lt HO6.out j hj
              omega
            clear HNR hrk
            generalize hnr : (namL l rd k).length = nr at *
            have HNr := veil hnr
            clear hnr
            go_wp2_with (at_builtin; refine wpList_append_lies _ rfl _ _ 26 rfl w.heap.size 9 i0 (.string ⟨#[]⟩) 1 16 Try.underlying26 HI0.out HZ0.out HZ1.out HZ2.out rfl (by decide) _ _ _ rfl (HR6.out.alloc _) ⟨w6.heap.size, 0, none⟩ 1 1 [.string x] rfl rfl (tx_new _ _) (tx_one _) (by decide) (by unfold maxLen; omega) (by omega) (by simp; omega) (w6.heap.size + 1) (by simp) ?_)
            intro g7 cap7 w7 hown7 hgrow7 hat7 hlt7
            all_goals
              obtain ⟨hb7, ho7, hp7⟩ := HGr7.out _ _ cap7 (nr + 1) hgrow7 hat7
              have HB7 := veil hb7
              have HO7 := veil ho7
              have HP7 := veil hp7
              have HR7 : Hid (w7.ownsRow w.heap.size 9 1 (.slice (some ⟨g7, 0, none⟩) (nr + 1) cap7) (namL l rd (k + 1)).length (txVals (namL l rd (k + 1)))) := by
                show w7.ownsRow _ _ _ _ _ _
                rw [HNR'.out, tx_snoc, List.length_append, HNr.out]
                exact hown7
              clear hown7 hgrow7 hat7 hlt7 hb7 ho7 hp7
              go_wp2_with fail
              exact ⟨⟨k + 1, by omega, by go_num, HO7.out, HR7.out, HP7.out, HB7.out⟩, by simp [intOf]; omega⟩
          | false =>
            have HR7 : Hid (w6.ownsRow w.heap.size 9 1 u7 (namL l rd (k + 1)).length (txVals (namL l rd (k + 1)))) := by
              show w6.ownsRow _ _ _ _ _ _
              rw [HNR.out, hrk, if_neg (by decide), List.append_nil]
              exact HR6.out
            have HP7 := veil HP5.out.symm
            clear HNR hrk
            go_wp2_with fail
            exact ⟨⟨k + 1, by omega, by go_num, HO6.out, HR7.out, HP7.out, HB6.out⟩, by simp [intOf]; omega⟩
    · have hnl : ¬ (k : Int) < (l.length : Int) := by omega
      have hke : k = l.length := by omega
      subst hke
      obtain ⟨wo, hwo⟩ : ∃ wo, wo = wr := ⟨_, rfl⟩
      subst hwo
      have hra := tx_row HOwnA.out (by unfold maxLen; omega) (HNz.out _ _)
      have hrr := tx_row HOwnR.out (by unfold maxLen; omega) (HNz.out _ _)
      have HA : Hid (∀ W, Below wo.heap.size wo W → SlAt (fun b => b < W.heap.size) (StrAt W) 1 (namL l (fun _ => true) l.length) u6) := fun W hW => strSl_keep ⟨fun b hb => hW.block b hb.2, fun b hb => Nat.lt_of_lt_of_le hb.2 hW.size⟩ hra
      have HR : Hid (∀ W, Below wo.heap.size wo W → SlAt (fun b => w.heap.size ≤ b ∧ b < W.heap.size) (StrAt W) 1 (namL l rd l.length) u7) := fun W hW => strSl_keep ⟨fun b hb => hW.block b hb.2, fun b hb => ⟨hb.1, Nat.lt_of_lt_of_le hb.2 hW.size⟩⟩ hrr
      obtain ⟨aa, acap, hae⟩ := hra.is
      subst hae
      obtain ⟨ra, rcap, hre⟩ := hrr.is
      subst hre
      clear hownA hownR hbl HOwnA HOwnR HPar hra hrr HLd
      go_wp2_with fail
      go_loopw [9, 10] (fun ov iv wy => ∃ (m : Nat) (out : List Nat), m ≤ l.length ∧ iv = .int .i64 m ∧ ordP l.length (grE l) rd (l.length - m) out = ordAll l.length (grE l) rd ∧ out.length ≤ m ∧ (∀ i ∈ out, i < l.length) ∧ wy.ownsRow wo.heap.size 9 1 ov (told l out).length (txVals (told l out)) ∧ Below wo.heap.size wo wy) (fun _ i _ => l.length - (intOf i).toNat)
      case atStart => exact ⟨0, [], Nat.zero_le _, rfl, rfl, Nat.le_refl _, (fun i hi => by cases hi), World.ownsRow_nil _ _ _ _, Below.refl _ _⟩
      case round =>
        obtain ⟨m, out, hm, rfl, hop, hol, hoi, hown, hby⟩ := hrel
        obtain ⟨wy, hwy⟩ : ∃ wy, wy = wr := ⟨_, rfl⟩
        subst hwy
        have HOp := veil hop
        have HOi := veil hoi
        have HOwn := veil hown
        have HBy := veil hby
        clear hop hoi hown hby
        by_cases hmt : m < l.length
        · have hmt' : (m : Int) < (l.length : Int) := by omega
          have HOsl : Hid (∀ W, Below wy.heap.size wy W → SlAt (fun b => b < W.heap.size) (StrAt W) 1 (told l out) u9) := fun W hW => by
            have h1 := tx_row HOwn.out (by rw [told_len]; unfold maxLen; omega) (HTz.out out)
            exact strSl_keep ⟨fun b hb => hW.block b hb.2, fun b hb => Nat.lt_of_lt_of_le hb.2 hW.size⟩ h1
          have hol2 : (told l out).length ≤ 10 := by rw [told_len]; omega
          have HRdy : Hid (∀ i (hi : i < l.length), rdyB l.length (grE l) rd out i = ((!hasS (namL l rd l.length) l[i].name && !hasS (told l out) l[i].name) && l[i].uses.all (okU (namL l (fun _ => true) l.length) (namL l rd l.length) (told l out)))) := fun i hi => rdy_ref HAl.out HOi.out hi
          obtain ⟨oa, ocap, hoe⟩ := (HOsl.out wy (Below.refl _ _)).is
          subst hoe
          go_wp2_with fail
          go_loopw [9, 11] (fun ov iv wz => ∃ i : Nat, i ≤ l.length ∧ ov = .slice oa (told l out).length ocap ∧ iv = .int .i64 i ∧ (∀ k, k < i → rdyB l.length (grE l) rd out k = false) ∧ Below wy.heap.size wy wz) (fun _ i _ => l.length - (intOf i).toNat)
          case atStart => exact ⟨0, Nat.zero_le _, rfl, rfl, fun k hk => absurd hk (by omega), Below.refl _ _⟩
          case round =>
            obtain ⟨i, hi, rfl, rfl, hno, hbz⟩ := hrel
            obtain ⟨wz, hwz⟩ : ∃ wz, wz = wr := ⟨_, rfl⟩
            subst hwz
            have HNo := veil hno
            have HBz := veil hbz
            have hszz := hbz.size
            clear hno
            by_cases hit : i < l.length
            · have hit' : (i : Int) < (l.length : Int) := by omega
              have hi0 : (0 : Int) ≤ (i : Int) := by omega
              obtain ⟨_, b, off, rfl, hb, hat⟩ := HL.out.at hit
              obtain ⟨a1, cap1, c0, m0, c1, hu⟩ := nd_cells hat
              have hbk := hS b hb
              have HBw : Hid (∀ W, Below wy.heap.size wy W → Below w.heap.size w W) := fun W hW => HBl.out.trans ((HBy.out.trans (hW.mono HBy.out.size)).mono hszr)
              have HD : Hid (∀ W, Below wy.heap.size wy W → W.cell? ⟨b, off + i * 2, none⟩ = some (.string l[i].name) ∧ W.cell? ⟨b, off + i * 2 + 1, none⟩ = some (.slice a1 l[i].uses.length cap1) ∧ b < W.heap.size) := fun W hW =>
                ⟨((HBw.out W hW).cell (p := ⟨b, off + i * 2, none⟩) hbk).trans c0, ((HBw.out W hW).cell (p := ⟨b, off + i * 2 + 1, none⟩) hbk).trans c1, Nat.lt_of_lt_of_le hbk (HBw.out W hW).size⟩
              have HUs : Hid (∀ W, Below wy.heap.size wy W → SlAt (fun b => b < W.heap.size) (StrAt W) 1 l[i].uses (.slice a1 l[i].uses.length cap1)) := fun W hW => strSl_keep ⟨fun b hb => (HBw.out W hW).block b (hS b hb), fun b hb => Nat.lt_of_lt_of_le (hS b hb) (HBw.out W hW).size⟩ hu
              have HTA : Hid (∀ x W, Below wy.heap.size wy W → Calls Try.prog 18 #[.slice aa (namL l (fun _ => true) l.length).length acap, .string x] W fun e w' => e = .returned (.bool (hasS (namL l (fun _ => true) l.length) x)) ∧ Below W.heap.size W w') := fun x W hW =>
                hasText_any (fun b => b < W.heap.size) _ x _ W (fun _ h => h) (HA.out W (HBy.out.trans (hW.mono HBy.out.size)))
              have HTR : Hid (∀ x W, Below wy.heap.size wy W → Calls Try.prog 18 #[.slice ra (namL l rd l.length).length rcap, .string x] W fun e w' => e = .returned (.bool (hasS (namL l rd l.length) x)) ∧ Below W.heap.size W w') := fun x W hW =>
                hasText_any (fun b => b < W.heap.size) _ x _ W (fun _ h => h) ((HR.out W (HBy.out.trans (hW.mono HBy.out.size))).imp (fun b hb => hb.2) (fun _ _ _ _ _ h => h))
              have HTO : Hid (∀ x W, Below wy.heap.size wy W → Calls Try.prog 18 #[.slice oa (told l out).length ocap, .string x] W fun e w' => e = .returned (.bool (hasS (told l out) x)) ∧ Below W.heap.size W w') := fun x W hW =>
                hasText_any (fun b => b < W.heap.size) _ x _ W (fun _ h => h) (HOsl.out W hW)
              have HRi : Hid (rdyB l.length (grE l) rd out i = ((!hasS (namL l rd l.length) l[i].name && !hasS (told l out) l[i].name) && l[i].uses.all (okU (namL l (fun _ => true) l.length) (namL l rd l.length) (told l out)))) := HRdy.out i hit
              have HOn : Hid (rdyB l.length (grE l) rd out i = false → ∀ k, k < i + 1 → rdyB l.length (grE l) rd out k = false) := fun h k hk => by
                by_cases hki : k = i
                · rw [hki]; exact h
                · exact HNo.out k (by omega)
              have HGo : Hid (rdyB l.length (grE l) rd out i = true → ordP l.length (grE l) rd (l.length - (m + 1)) (i :: out) = ordAll l.length (grE l) rd ∧ told l (i :: out) = told l out ++ [l[i].name]) := fun h => by
                refine ⟨?_, by rw [told_cons, nmN_at hit]⟩
                rw [← HOp.out, show l.length - m = (l.length - (m + 1)) + 1 by omega, ord_some (nxt_at hit h HNo.out)]
              obtain ⟨d0, d1, hbr⟩ := HD.out _ hbz
              have hul := hu.len
              unfold maxLen at hul
              clear c0 c1 m0 hat hu hbk hb hbz HNo HRdy HA HR HOsl HN8 HAl HNz HTz HOp HL HBl HBw
              generalize rdyB l.length (grE l) rd out i = rdy at *
              generalize hnm : l[i].name = x at *
              clear hnm
              generalize hus : l[i].uses = us at *
              clear hus
              cases h1 : hasS (namL l rd l.length) x with
              | true =>
                have HTR1 := veil (fun W hW => HTR.out x W hW)
                rw [h1] at HTR1
                go_wp2_with fail
                refine (HTR1.out _ HBz.out).mono ?_
                rintro e w3 ⟨rfl, hb3⟩
                have HW7 := veil hb3
                clear hb3 HTR1
                have HB7 := veil (HBz.out.trans (HW7.out.mono hszz))
                have HR7 : Hid (rdy = (false && us.all (okU (namL l (fun _ => true) l.length) (namL l rd l.length) (told l out)))) := by
                  show _ = _
                  rw [HRi.out, h1]; rfl
                obtain ⟨e0, e1, hbr7⟩ := HD.out _ HB7.out
                clear HRi HW7 h1
                go_wp2_with fail
                go_loopw [12, 13] (fun rv kv w2 => ∃ (k : Nat) (r : Bool), k ≤ us.length ∧ kv = .int .i64 k ∧ rv = .bool r ∧ rdy = (r && (us.drop k).all (okU (namL l (fun _ => true) l.length) (namL l rd l.length) (told l out))) ∧ Below wy.heap.size wy w2) (fun _ k _ => us.length - (intOf k).toNat)
                case atStart => exact ⟨0, false, Nat.zero_le _, rfl, rfl, HR7.out, HB7.out⟩
                case round =>
                  clear HR7 HB7 e0 e1 d0 d1
                  obtain ⟨k, r, hk, rfl, rfl, hq, hb2⟩ := hrel
                  obtain ⟨w2, hw2⟩ : ∃ w2, w2 = wr := ⟨_, rfl⟩
                  subst hw2
                  have HQ := veil hq
                  have HB2 := veil hb2
                  have hsz2 := hb2.size
                  obtain ⟨d0, d1, hbr2⟩ := HD.out _ hb2
                  clear hq
                  by_cases hkt : k < us.length
                  · have hkt' : (k : Int) < (us.length : Int) := by omega
                    have hk0 : (0 : Int) ≤ (k : Int) := by omega
                    have hsl := HUs.out _ hb2
                    obtain ⟨_, b2, off2, rfl, hbb2, u0, n0⟩ := hsl.at hkt
                    rw [Nat.mul_one] at u0
                    have HS : Hid (rdy = (r && (okU (namL l (fun _ => true) l.length) (namL l rd l.length) (told l out) us[k] && (us.drop (k + 1)).all (okU (namL l (fun _ => true) l.length) (namL l rd l.length) (told l out))))) := by show _ = _; rw [HQ.out, all_at hkt]
                    have HOK : Hid (okU (namL l (fun _ => true) l.length) (namL l rd l.length) (told l out) us[k] = (!hasS (namL l (fun _ => true) l.length) us[k] || (hasS (namL l rd l.length) us[k] || hasS (told l out) us[k]))) := rfl
                    have HTa := veil (HTA.out us[k])
                    have HTr := veil (HTR.out us[k])
                    have HTo := veil (HTO.out us[k])
                    clear n0 hsl HQ hb2 HGo HOn HTA HTR HTO HUs HD HI0 HZ0 HZ1 HZ2 HOi HOwn HBy HBz
                    generalize us[k] = z at *
                    cases r with
                    | false =>
                      have HS' : Hid (rdy = (false && (us.drop (k + 1)).all (okU (namL l (fun _ => true) l.length) (namL l rd l.length) (told l out)))) := by show _ = _; rw [HS.out]; rfl
                      clear HS HOK
                      go_wp2_with fail
                      exact ⟨⟨k + 1, false, by omega, by go_num, rfl, HS'.out, HB2.out⟩, by simp [intOf]; omega⟩
                    | true =>
                      cases ha : hasS (namL l (fun _ => true) l.length) z with
                      | false =>
                        rw [ha] at HTa
                        have HS' : Hid (rdy = (true && (us.drop (k + 1)).all (okU (namL l (fun _ => true) l.length) (namL l rd l.length) (told l out)))) := by show _ = _; rw [HS.out, HOK.out, ha]; rfl
                        clear HS HOK ha
                        go_wp2_with fail
                        refine (HTa.out _ HB2.out).mono ?_
                        rintro e w3 ⟨rfl, hb3⟩
                        have HB3 := veil (HB2.out.trans (hb3.mono hsz2))
                        clear hb3
                        go_wp2_with fail
                        exact ⟨⟨k + 1, true, by omega, by go_num, rfl, HS'.out, HB3.out⟩, by simp [intOf]; omega⟩
                      | true =>
                        rw [ha] at HTa
                        cases hr : hasS (namL l rd l.length) z with
                        | true =>
                          rw [hr] at HTr
                          have HS' : Hid (rdy = (true && (us.drop (k + 1)).all (okU (namL l (fun _ => true) l.length) (namL l rd l.length) (told l out)))) := by show _ = _; rw [HS.out, HOK.out, ha, hr]; rfl
                          clear HS HOK ha hr
                          go_wp2_with fail
                          refine (HTa.out _ HB2.out).mono ?_
                          rintro e w3 ⟨rfl, hb3⟩
                          have HB3 := veil (HB2.out.trans (hb3.mono hsz2))
                          clear hb3
                          go_wp2_with fail
                          refine (HTr.out _ HB3.out).mono ?_
                          rintro e w4 ⟨rfl, hb4⟩
                          have HB4 := veil (HB3.out.trans (hb4.mono HB3.out.size))
                          clear hb4
                          go_wp2_with fail
                          exact ⟨⟨k + 1, true, by omega, by go_num, rfl, HS'.out, HB4.out⟩, by simp [intOf]; omega⟩
                        | false =>
                          rw [hr] at HTr
                          cases hh : hasS (told l out) z with
                          | true =>
                            rw [hh] at HTo
                            have HS' : Hid (rdy = (true && (us.drop (k + 1)).all (okU (namL l (fun _ => true) l.length) (namL l rd l.length) (told l out)))) := by show _ = _; rw [HS.out, HOK.out, ha, hr, hh]; rfl
                            clear HS HOK ha hr hh
                            go_wp2_with fail
                            refine (HTa.out _ HB2.out).mono ?_
                            rintro e w3 ⟨rfl, hb3⟩
                            have HB3 := veil (HB2.out.trans (hb3.mono hsz2))
                            clear hb3 HTa
                            go_wp2_with fail
                            refine (HTr.out _ HB3.out).mono ?_
                            rintro e w4 ⟨rfl, hb4⟩
                            have HB4 := veil (HB3.out.trans (hb4.mono HB3.out.size))
                            clear hb4 HB3 HTr
                            go_wp2_with fail
                            refine (HTo.out _ HB4.out).mono ?_
                            rintro e w5 ⟨rfl, hb5⟩
                            have HB5 := veil (HB4.out.trans (hb5.mono HB4.out.size))
                            clear hb5 HB4 HTo
                            go_wp2_with fail
                            exact ⟨⟨k + 1, true, by omega, by go_num, rfl, HS'.out, HB5.out⟩, by simp [intOf]; omega⟩
                          | false =>
                            rw [hh] at HTo
                            have HS' : Hid (rdy = (false && (us.drop (k + 1)).all (okU (namL l (fun _ => true) l.length) (namL l rd l.length) (told l out)))) := by show _ = _; rw [HS.out, HOK.out, ha, hr, hh]; rfl
                            clear HS HOK ha hr hh
                            go_wp2_with fail
                            refine (HTa.out _ HB2.out).mono ?_
                            rintro e w3 ⟨rfl, hb3⟩
                            have HB3 := veil (HB2.out.trans (hb3.mono hsz2))
                            clear hb3 HTa
                            go_wp2_with fail
                            refine (HTr.out _ HB3.out).mono ?_
                            rintro e w4 ⟨rfl, hb4⟩
                            have HB4 := veil (HB3.out.trans (hb4.mono HB3.out.size))
                            clear hb4 HB3 HTr
                            go_wp2_with fail
                            refine (HTo.out _ HB4.out).mono ?_
                            rintro e w5 ⟨rfl, hb5⟩
                            have HB5 := veil (HB4.out.trans (hb5.mono HB4.out.size))
                            clear hb5 HB4 HTo
                            go_wp2_with fail
                            exact ⟨⟨k + 1, false, by omega, by go_num, rfl, HS'.out, HB5.out⟩, by simp [intOf]; omega⟩
                  · have hnk : ¬ (k : Int) < (us.length : Int) := by omega
                    have HRr : Hid (rdy = r) := by show _ = _; rw [HQ.out, List.drop_eq_nil_of_le (by omega)]; simp
                    clear HQ hb2 HTA HTR HTO HUs HD HBz
                    cases r with
                    | false =>
                      have HN := veil (HOn.out HRr.out)
                      clear HOn HGo HRr HOi HOwn HBy HI0 HZ0 HZ1 HZ2
                      go_wp2_with fail
                      exact ⟨⟨i + 1, by omega, rfl, by go_num, HN.out, HB2.out⟩, by simp [intOf]; omega⟩
                    | true =>
                      obtain ⟨hg1, hg2⟩ := HGo.out HRr.out
                      have HG1 := veil hg1
                      have HG2 := veil hg2
                      have HO2 := veil (ownsTx_later HOwn.out HB2.out)
                      have HBo2 := veil (HBy.out.trans (HB2.out.mono HBy.out.size))
                      have hszo2 := HBo2.out.size
                      have HGr5 : Hid (∀ w', (w2.alloc (.cells #[.string x] 9)).grownBy w' (Value.ownBlock (.slice oa (told l out).length ocap)) → Below wo.heap.size wo w') := fun w' hg => by
                        have hrow := ownsTx_at HO2.out
                        exact (HBo2.out.alloc (by omega) _).grown hg (by simp; omega) (fun q hq => hrow q hq)
                      have HOi' : Hid (∀ j ∈ i :: out, j < l.length) := fun j hj => by
                        rcases List.mem_cons.1 hj with h | h
                        · rw [h]; exact hit
                        · exact HOi.out j h
                      clear HOn HGo HRr hg1 hg2 HOi HOwn HBy
                      generalize htl : told l out = tl at *
                      clear htl
                      go_wp2_with (at_builtin; refine wpList_append_lies _ rfl _ _ 26 rfl wo.heap.size 9 i0 (.string ⟨#[]⟩) 1 16 Try.underlying26 HI0.out HZ0.out HZ1.out HZ2.out rfl (by decide) _ _ _ rfl (HO2.out.alloc _) ⟨w2.heap.size, 0, none⟩ 1 1 [.string x] rfl rfl (tx_new _ _) (tx_one _) (by decide) (by unfold maxLen; omega) (by omega) (by simp; omega) (w2.heap.size + 1) (by simp) ?_)
                      intro g5 cap5 w5 hown5 hgrow5 hat5 hlt5
                      all_goals
                        have HB5 : Hid (Below wo.heap.size wo w5) := HGr5.out _ hgrow5
                        have HO5 : Hid (w5.ownsRow wo.heap.size 9 1 (.slice (some ⟨g5, 0, none⟩) (tl.length + 1) cap5) (told l (i :: out)).length (txVals (told l (i :: out)))) := by
                          show w5.ownsRow _ _ _ _ _ _
                          rw [HG2.out, tx_snoc, List.length_append]
                          exact hown5
                        clear hown5 hgrow5 hat5 hlt5
                        go_wp2_with fail
                        exact ⟨⟨m + 1, i :: out, by omega, by go_num, HG1.out, by simp only [List.length_cons]; omega, HOi'.out, HO5.out, HB5.out⟩, by simp [intOf]; omega⟩
              | false =>
                cases h2 : hasS (told l out) x with
                | true =>
                  have HTR1 := veil (fun W hW => HTR.out x W hW)
                  rw [h1] at HTR1
                  have HTO1 := veil (fun W hW => HTO.out x W hW)
                  rw [h2] at HTO1
                  go_wp2_with fail
                  refine (HTR1.out _ HBz.out).mono ?_
                  rintro e w3 ⟨rfl, hb3⟩
                  have HB3 := veil (HBz.out.trans (hb3.mono hszz))
                  have HW3 := veil hb3
                  obtain ⟨d0, d1, hbr3⟩ := HD.out _ HB3.out
                  clear hb3
                  go_wp2_with fail
                  refine (HTO1.out _ HB3.out).mono ?_
                  rintro e w4 ⟨rfl, hb4⟩
                  have HW7 := veil (HW3.out.trans (hb4.mono HW3.out.size))
                  clear hb4
                  clear HTR1 HTO1
                  have HB7 := veil (HBz.out.trans (HW7.out.mono hszz))
                  have HR7 : Hid (rdy = (false && us.all (okU (namL l (fun _ => true) l.length) (namL l rd l.length) (told l out)))) := by
                    show _ = _
                    rw [HRi.out, h1, h2]; rfl
                  obtain ⟨e0, e1, hbr7⟩ := HD.out _ HB7.out
                  clear HRi HW7 h1 h2
                  go_wp2_with fail
                  go_loopw [12, 13] (fun rv kv w2 => ∃ (k : Nat) (r : Bool), k ≤ us.length ∧ kv = .int .i64 k ∧ rv = .bool r ∧ rdy = (r && (us.drop k).all (okU (namL l (fun _ => true) l.length) (namL l rd l.length) (told l out))) ∧ Below wy.heap.size wy w2) (fun _ k _ => us.length - (intOf k).toNat)
                  case atStart => exact ⟨0, false, Nat.zero_le _, rfl, rfl, HR7.out, HB7.out⟩
                  case round =>
                    clear HR7 HB7 e0 e1 d0 d1
                    obtain ⟨k, r, hk, rfl, rfl, hq, hb2⟩ := hrel
                    obtain ⟨w2, hw2⟩ : ∃ w2, w2 = wr := ⟨_, rfl⟩
                    subst hw2
                    have HQ := veil hq
                    have HB2 := veil hb2
                    have hsz2 := hb2.size
                    obtain ⟨d0, d1, hbr2⟩ := HD.out _ hb2
                    clear hq
                    by_cases hkt : k < us.length
                    · have hkt' : (k : Int) < (us.length : Int) := by omega
                      have hk0 : (0 : Int) ≤ (k : Int) := by omega
                      have hsl := HUs.out _ hb2
                      obtain ⟨_, b2, off2, rfl, hbb2, u0, n0⟩ := hsl.at hkt
                      rw [Nat.mul_one] at u0
                      have HS : Hid (rdy = (r && (okU (namL l (fun _ => true) l.length) (namL l rd l.length) (told l out) us[k] && (us.drop (k + 1)).all (okU (namL l (fun _ => true) l.length) (namL l rd l.length) (told l out))))) := by show _ = _; rw [HQ.out, all_at hkt]
                      have HOK : Hid (okU (namL l (fun _ => true) l.length) (namL l rd l.length) (told l out) us[k] = (!hasS (namL l (fun _ => true) l.length) us[k] || (hasS (namL l rd l.length) us[k] || hasS (told l out) us[k]))) := rfl
                      have HTa := veil (HTA.out us[k])
                      have HTr := veil (HTR.out us[k])
                      have HTo := veil (HTO.out us[k])
                      clear n0 hsl HQ hb2 HGo HOn HTA HTR HTO HUs HD HI0 HZ0 HZ1 HZ2 HOi HOwn HBy HBz
                      generalize us[k] = z at *
                      cases r with
                      | false =>
                        have HS' : Hid (rdy = (false && (us.drop (k + 1)).all (okU (namL l (fun _ => true) l.length) (namL l rd l.length) (told l out)))) := by show _ = _; rw [HS.out]; rfl
                        clear HS HOK
                        go_wp2_with fail
                        exact ⟨⟨k + 1, false, by omega, by go_num, rfl, HS'.out, HB2.out⟩, by simp [intOf]; omega⟩
                      | true =>
                        cases ha : hasS (namL l (fun _ => true) l.length) z with
                        | false =>
                          rw [ha] at HTa
                          have HS' : Hid (rdy = (true && (us.drop (k + 1)).all (okU (namL l (fun _ => true) l.length) (namL l rd l.length) (told l out)))) := by show _ = _; rw [HS.out, HOK.out, ha]; rfl
                          clear HS HOK ha
                          go_wp2_with fail
                          refine (HTa.out _ HB2.out).mono ?_
                          rintro e w3 ⟨rfl, hb3⟩
                          have HB3 := veil (HB2.out.trans (hb3.mono hsz2))
                          clear hb3
                          go_wp2_with fail
                          exact ⟨⟨k + 1, true, by omega, by go_num, rfl, HS'.out, HB3.out⟩, by simp [intOf]; omega⟩
                        | true =>
                          rw [ha] at HTa
                          cases hr : hasS (namL l rd l.length) z with
                          | true =>
                            rw [hr] at HTr
                            have HS' : Hid (rdy = (true && (us.drop (k + 1)).all (okU (namL l (fun _ => true) l.length) (namL l rd l.length) (told l out)))) := by show _ = _; rw [HS.out, HOK.out, ha, hr]; rfl
                            clear HS HOK ha hr
                            go_wp2_with fail
                            refine (HTa.out _ HB2.out).mono ?_
                            rintro e w3 ⟨rfl, hb3⟩
                            have HB3 := veil (HB2.out.trans (hb3.mono hsz2))
                            clear hb3
                            go_wp2_with fail
                            refine (HTr.out _ HB3.out).mono ?_
                            rintro e w4 ⟨rfl, hb4⟩
                            have HB4 := veil (HB3.out.trans (hb4.mono HB3.out.size))
                            clear hb4
                            go_wp2_with fail
                            exact ⟨⟨k + 1, true, by omega, by go_num, rfl, HS'.out, HB4.out⟩, by simp [intOf]; omega⟩
                          | false =>
                            rw [hr] at HTr
                            cases hh : hasS (told l out) z with
                            | true =>
                              rw [hh] at HTo
                              have HS' : Hid (rdy = (true && (us.drop (k + 1)).all (okU (namL l (fun _ => true) l.length) (namL l rd l.length) (told l out)))) := by show _ = _; rw [HS.out, HOK.out, ha, hr, hh]; rfl
                              clear HS HOK ha hr hh
                              go_wp2_with fail
                              refine (HTa.out _ HB2.out).mono ?_
                              rintro e w3 ⟨rfl, hb3⟩
                              have HB3 := veil (HB2.out.trans (hb3.mono hsz2))
                              clear hb3 HTa
                              go_wp2_with fail
                              refine (HTr.out _ HB3.out).mono ?_
                              rintro e w4 ⟨rfl, hb4⟩
                              have HB4 := veil (HB3.out.trans (hb4.mono HB3.out.size))
                              clear hb4 HB3 HTr
                              go_wp2_with fail
                              refine (HTo.out _ HB4.out).mono ?_
                              rintro e w5 ⟨rfl, hb5⟩
                              have HB5 := veil (HB4.out.trans (hb5.mono HB4.out.size))
                              clear hb5 HB4 HTo
                              go_wp2_with fail
                              exact ⟨⟨k + 1, true, by omega, by go_num, rfl, HS'.out, HB5.out⟩, by simp [intOf]; omega⟩
                            | false =>
                              rw [hh] at HTo
                              have HS' : Hid (rdy = (false && (us.drop (k + 1)).all (okU (namL l (fun _ => true) l.length) (namL l rd l.length) (told l out)))) := by show _ = _; rw [HS.out, HOK.out, ha, hr, hh]; rfl
                              clear HS HOK ha hr hh
                              go_wp2_with fail
                              refine (HTa.out _ HB2.out).mono ?_
                              rintro e w3 ⟨rfl, hb3⟩
                              have HB3 := veil (HB2.out.trans (hb3.mono hsz2))
                              clear hb3 HTa
                              go_wp2_with fail
                              refine (HTr.out _ HB3.out).mono ?_
                              rintro e w4 ⟨rfl, hb4⟩
                              have HB4 := veil (HB3.out.trans (hb4.mono HB3.out.size))
                              clear hb4 HB3 HTr
                              go_wp2_with fail
                              refine (HTo.out _ HB4.out).mono ?_
                              rintro e w5 ⟨rfl, hb5⟩
                              have HB5 := veil (HB4.out.trans (hb5.mono HB4.out.size))
                              clear hb5 HB4 HTo
                              go_wp2_with fail
                              exact ⟨⟨k + 1, false, by omega, by go_num, rfl, HS'.out, HB5.out⟩, by simp [intOf]; omega⟩
                    · have hnk : ¬ (k : Int) < (us.length : Int) := by omega
                      have HRr : Hid (rdy = r) := by show _ = _; rw [HQ.out, List.drop_eq_nil_of_le (by omega)]; simp
                      clear HQ hb2 HTA HTR HTO HUs HD HBz
                      cases r with
                      | false =>
                        have HN := veil (HOn.out HRr.out)
                        clear HOn HGo HRr HOi HOwn HBy HI0 HZ0 HZ1 HZ2
                        go_wp2_with fail
                        exact ⟨⟨i + 1, by omega, rfl, by go_num, HN.out, HB2.out⟩, by simp [intOf]; omega⟩
                      | true =>
                        obtain ⟨hg1, hg2⟩ := HGo.out HRr.out
                        have HG1 := veil hg1
                        have HG2 := veil hg2
                        have HO2 := veil (ownsTx_later HOwn.out HB2.out)
                        have HBo2 := veil (HBy.out.trans (HB2.out.mono HBy.out.size))
                        have hszo2 := HBo2.out.size
                        have HGr5 : Hid (∀ w', (w2.alloc (.cells #[.string x] 9)).grownBy w' (Value.ownBlock (.slice oa (told l out).length ocap)) → Below wo.heap.size wo w') := fun w' hg => by
                          have hrow := ownsTx_at HO2.out
                          exact (HBo2.out.alloc (by omega) _).grown hg (by simp; omega) (fun q hq => hrow q hq)
                        have HOi' : Hid (∀ j ∈ i :: out, j < l.length) := fun j hj => by
                          rcases List.mem_cons.1 hj with h | h
                          · rw [h]; exact hit
                          · exact HOi.out j h
                        clear HOn HGo HRr hg1 hg2 HOi HOwn HBy
                        generalize htl : told l out = tl at *
                        clear htl
                        go_wp2_with (at_builtin; refine wpList_append_lies _ rfl _ _ 26 rfl wo.heap.size 9 i0 (.string ⟨#[]⟩) 1 16 Try.underlying26 HI0.out HZ0.out HZ1.out HZ2.out rfl (by decide) _ _ _ rfl (HO2.out.alloc _) ⟨w2.heap.size, 0, none⟩ 1 1 [.string x] rfl rfl (tx_new _ _) (tx_one _) (by decide) (by unfold maxLen; omega) (by omega) (by simp; omega) (w2.heap.size + 1) (by simp) ?_)
                        intro g5 cap5 w5 hown5 hgrow5 hat5 hlt5
                        all_goals
                          have HB5 : Hid (Below wo.heap.size wo w5) := HGr5.out _ hgrow5
                          have HO5 : Hid (w5.ownsRow wo.heap.size 9 1 (.slice (some ⟨g5, 0, none⟩) (tl.length + 1) cap5) (told l (i :: out)).length (txVals (told l (i :: out)))) := by
                            show w5.ownsRow _ _ _ _ _ _
                            rw [HG2.out, tx_snoc, List.length_append]
                            exact hown5
                          clear hown5 hgrow5 hat5 hlt5
                          go_wp2_with fail
                          exact ⟨⟨m + 1, i :: out, by omega, by go_num, HG1.out, by simp only [List.length_cons]; omega, HOi'.out, HO5.out, HB5.out⟩, by simp [intOf]; omega⟩
                | false =>
                  have HTR1 := veil (fun W hW => HTR.out x W hW)
                  rw [h1] at HTR1
                  have HTO1 := veil (fun W hW => HTO.out x W hW)
                  rw [h2] at HTO1
                  go_wp2_with fail
                  refine (HTR1.out _ HBz.out).mono ?_
                  rintro e w3 ⟨rfl, hb3⟩
                  have HB3 := veil (HBz.out.trans (hb3.mono hszz))
                  have HW3 := veil hb3
                  obtain ⟨d0, d1, hbr3⟩ := HD.out _ HB3.out
                  clear hb3
                  go_wp2_with fail
                  refine (HTO1.out _ HB3.out).mono ?_
                  rintro e w4 ⟨rfl, hb4⟩
                  have HW7 := veil (HW3.out.trans (hb4.mono HW3.out.size))
                  clear hb4
                  clear HTR1 HTO1
                  have HB7 := veil (HBz.out.trans (HW7.out.mono hszz))
                  have HR7 : Hid (rdy = (true && us.all (okU (namL l (fun _ => true) l.length) (namL l rd l.length) (told l out)))) := by
                    show _ = _
                    rw [HRi.out, h1, h2]; rfl
                  obtain ⟨e0, e1, hbr7⟩ := HD.out _ HB7.out
                  clear HRi HW7 h1 h2
                  go_wp2_with fail
                  go_loopw [12, 13] (fun rv kv w2 => ∃ (k : Nat) (r : Bool), k ≤ us.length ∧ kv = .int .i64 k ∧ rv = .bool r ∧ rdy = (r && (us.drop k).all (okU (namL l (fun _ => true) l.length) (namL l rd l.length) (told l out))) ∧ Below wy.heap.size wy w2) (fun _ k _ => us.length - (intOf k).toNat)
                  case atStart => exact ⟨0, true, Nat.zero_le _, rfl, rfl, HR7.out, HB7.out⟩
                  case round =>
                    clear HR7 HB7 e0 e1 d0 d1
                    obtain ⟨k, r, hk, rfl, rfl, hq, hb2⟩ := hrel
                    obtain ⟨w2, hw2⟩ : ∃ w2, w2 = wr := ⟨_, rfl⟩
                    subst hw2
                    have HQ := veil hq
                    have HB2 := veil hb2
                    have hsz2 := hb2.size
                    obtain ⟨d0, d1, hbr2⟩ := HD.out _ hb2
                    clear hq
                    by_cases hkt : k < us.length
                    · have hkt' : (k : Int) < (us.length : Int) := by omega
                      have hk0 : (0 : Int) ≤ (k : Int) := by omega
                      have hsl := HUs.out _ hb2
                      obtain ⟨_, b2, off2, rfl, hbb2, u0, n0⟩ := hsl.at hkt
                      rw [Nat.mul_one] at u0
                      have HS : Hid (rdy = (r && (okU (namL l (fun _ => true) l.length) (namL l rd l.length) (told l out) us[k] && (us.drop (k + 1)).all (okU (namL l (fun _ => true) l.length) (namL l rd l.length) (told l out))))) := by show _ = _; rw [HQ.out, all_at hkt]
                      have HOK : Hid (okU (namL l (fun _ => true) l.length) (namL l rd l.length) (told l out) us[k] = (!hasS (namL l (fun _ => true) l.length) us[k] || (hasS (namL l rd l.length) us[k] || hasS (told l out) us[k]))) := rfl
                      have HTa := veil (HTA.out us[k])
                      have HTr := veil (HTR.out us[k])
                      have HTo := veil (HTO.out us[k])
                      clear n0 hsl HQ hb2 HGo HOn HTA HTR HTO HUs HD HI0 HZ0 HZ1 HZ2 HOi HOwn HBy HBz
                      generalize us[k] = z at *
                      cases r with
                      | false =>
                        have HS' : Hid (rdy = (false && (us.drop (k + 1)).all (okU (namL l (fun _ => true) l.length) (namL l rd l.length) (told l out)))) := by show _ = _; rw [HS.out]; rfl
                        clear HS HOK
                        go_wp2_with fail
                        exact ⟨⟨k + 1, false, by omega, by go_num, rfl, HS'.out, HB2.out⟩, by simp [intOf]; omega⟩
                      | true =>
                        cases ha : hasS (namL l (fun _ => true) l.length) z with
                        | false =>
                          rw [ha] at HTa
                          have HS' : Hid (rdy = (true && (us.drop (k + 1)).all (okU (namL l (fun _ => true) l.length) (namL l rd l.length) (told l out)))) := by show _ = _; rw [HS.out, HOK.out, ha]; rfl
                          clear HS HOK ha
                          go_wp2_with fail
                          refine (HTa.out _ HB2.out).mono ?_
                          rintro e w3 ⟨rfl, hb3⟩
                          have HB3 := veil (HB2.out.trans (hb3.mono hsz2))
                          clear hb3
                          go_wp2_with fail
                          exact ⟨⟨k + 1, true, by omega, by go_num, rfl, HS'.out, HB3.out⟩, by simp [intOf]; omega⟩
                        | true =>
                          rw [ha] at HTa
                          cases hr : hasS (namL l rd l.length) z with
                          | true =>
                            rw [hr] at HTr
                            have HS' : Hid (rdy = (true && (us.drop (k + 1)).all (okU (namL l (fun _ => true) l.length) (namL l rd l.length) (told l out)))) := by show _ = _; rw [HS.out, HOK.out, ha, hr]; rfl
                            clear HS HOK ha hr
                            go_wp2_with fail
                            refine (HTa.out _ HB2.out).mono ?_
                            rintro e w3 ⟨rfl, hb3⟩
                            have HB3 := veil (HB2.out.trans (hb3.mono hsz2))
                            clear hb3
                            go_wp2_with fail
                            refine (HTr.out _ HB3.out).mono ?_
                            rintro e w4 ⟨rfl, hb4⟩
                            have HB4 := veil (HB3.out.trans (hb4.mono HB3.out.size))
                            clear hb4
                            go_wp2_with fail
                            exact ⟨⟨k + 1, true, by omega, by go_num, rfl, HS'.out, HB4.out⟩, by simp [intOf]; omega⟩
                          | false =>
                            rw [hr] at HTr
                            cases hh : hasS (told l out) z with
                            | true =>
                              rw [hh] at HTo
                              have HS' : Hid (rdy = (true && (us.drop (k + 1)).all (okU (namL l (fun _ => true) l.length) (namL l rd l.length) (told l out)))) := by show _ = _; rw [HS.out, HOK.out, ha, hr, hh]; rfl
                              clear HS HOK ha hr hh
                              go_wp2_with fail
                              refine (HTa.out _ HB2.out).mono ?_
                              rintro e w3 ⟨rfl, hb3⟩
                              have HB3 := veil (HB2.out.trans (hb3.mono hsz2))
                              clear hb3 HTa
                              go_wp2_with fail
                              refine (HTr.out _ HB3.out).mono ?_
                              rintro e w4 ⟨rfl, hb4⟩
                              have HB4 := veil (HB3.out.trans (hb4.mono HB3.out.size))
                              clear hb4 HB3 HTr
                              go_wp2_with fail
                              refine (HTo.out _ HB4.out).mono ?_
                              rintro e w5 ⟨rfl, hb5⟩
                              have HB5 := veil (HB4.out.trans (hb5.mono HB4.out.size))
                              clear hb5 HB4 HTo
                              go_wp2_with fail
                              exact ⟨⟨k + 1, true, by omega, by go_num, rfl, HS'.out, HB5.out⟩, by simp [intOf]; omega⟩
                            | false =>
                              rw [hh] at HTo
                              have HS' : Hid (rdy = (false && (us.drop (k + 1)).all (okU (namL l (fun _ => true) l.length) (namL l rd l.length) (told l out)))) := by show _ = _; rw [HS.out, HOK.out, ha, hr, hh]; rfl
                              clear HS HOK ha hr hh
                              go_wp2_with fail
                              refine (HTa.out _ HB2.out).mono ?_
                              rintro e w3 ⟨rfl, hb3⟩
                              have HB3 := veil (HB2.out.trans (hb3.mono hsz2))
                              clear hb3 HTa
                              go_wp2_with fail
                              refine (HTr.out _ HB3.out).mono ?_
                              rintro e w4 ⟨rfl, hb4⟩
                              have HB4 := veil (HB3.out.trans (hb4.mono HB3.out.size))
                              clear hb4 HB3 HTr
                              go_wp2_with fail
                              refine (HTo.out _ HB4.out).mono ?_
                              rintro e w5 ⟨rfl, hb5⟩
                              have HB5 := veil (HB4.out.trans (hb5.mono HB4.out.size))
                              clear hb5 HB4 HTo
                              go_wp2_with fail
                              exact ⟨⟨k + 1, false, by omega, by go_num, rfl, HS'.out, HB5.out⟩, by simp [intOf]; omega⟩
                    · have hnk : ¬ (k : Int) < (us.length : Int) := by omega
                      have HRr : Hid (rdy = r) := by show _ = _; rw [HQ.out, List.drop_eq_nil_of_le (by omega)]; simp
                      clear HQ hb2 HTA HTR HTO HUs HD HBz
                      cases r with
                      | false =>
                        have HN := veil (HOn.out HRr.out)
                        clear HOn HGo HRr HOi HOwn HBy HI0 HZ0 HZ1 HZ2
                        go_wp2_with fail
                        exact ⟨⟨i + 1, by omega, rfl, by go_num, HN.out, HB2.out⟩, by simp [intOf]; omega⟩
                      | true =>
                        obtain ⟨hg1, hg2⟩ := HGo.out HRr.out
                        have HG1 := veil hg1
                        have HG2 := veil hg2
                        have HO2 := veil (ownsTx_later HOwn.out HB2.out)
                        have HBo2 := veil (HBy.out.trans (HB2.out.mono HBy.out.size))
                        have hszo2 := HBo2.out.size
                        have HGr5 : Hid (∀ w', (w2.alloc (.cells #[.string x] 9)).grownBy w' (Value.ownBlock (.slice oa (told l out).length ocap)) → Below wo.heap.size wo w') := fun w' hg => by
                          have hrow := ownsTx_at HO2.out
                          exact (HBo2.out.alloc (by omega) _).grown hg (by simp; omega) (fun q hq => hrow q hq)
                        have HOi' : Hid (∀ j ∈ i :: out, j < l.length) := fun j hj => by
                          rcases List.mem_cons.1 hj with h | h
                          · rw [h]; exact hit
                          · exact HOi.out j h
                        clear HOn HGo HRr hg1 hg2 HOi HOwn HBy
                        generalize htl : told l out = tl at *
                        clear htl
                        go_wp2_with (at_builtin; refine wpList_append_lies _ rfl _ _ 26 rfl wo.heap.size 9 i0 (.string ⟨#[]⟩) 1 16 Try.underlying26 HI0.out HZ0.out HZ1.out HZ2.out rfl (by decide) _ _ _ rfl (HO2.out.alloc _) ⟨w2.heap.size, 0, none⟩ 1 1 [.string x] rfl rfl (tx_new _ _) (tx_one _) (by decide) (by unfold maxLen; omega) (by omega) (by simp; omega) (w2.heap.size + 1) (by simp) ?_)
                        intro g5 cap5 w5 hown5 hgrow5 hat5 hlt5
                        all_goals
                          have HB5 : Hid (Below wo.heap.size wo w5) := HGr5.out _ hgrow5
                          have HO5 : Hid (w5.ownsRow wo.heap.size 9 1 (.slice (some ⟨g5, 0, none⟩) (tl.length + 1) cap5) (told l (i :: out)).length (txVals (told l (i :: out)))) := by
                            show w5.ownsRow _ _ _ _ _ _
                            rw [HG2.out, tx_snoc, List.length_append]
                            exact hown5
                          clear hown5 hgrow5 hat5 hlt5
                          go_wp2_with fail
                          exact ⟨⟨m + 1, i :: out, by omega, by go_num, HG1.out, by simp only [List.length_cons]; omega, HOi'.out, HO5.out, HB5.out⟩, by simp [intOf]; omega⟩
            · have hni : ¬ (i : Int) < (l.length : Int) := by omega
              have hnone := nxt_nothing (fun k hk => HNo.out k (by omega))
              have HOp' : Hid (ordP l.length (grE l) rd (l.length - (m + 1)) out = ordAll l.length (grE l) rd) := by
                show _ = _
                rw [← HOp.out, ord_none hnone, ord_none hnone]
              have HO2 := veil (ownsTx_later HOwn.out hbz)
              have HB2 := veil (HBy.out.trans (hbz.mono HBy.out.size))
              clear HOp hnone HOwn hbz HNo HRdy HL
              go_wp2_with fail
              exact ⟨⟨m + 1, out, by omega, by go_num, HOp'.out, by omega, HOi.out, HO2.out, HB2.out⟩, by simp [intOf]; omega⟩
        · have hnm : ¬ (m : Int) < (l.length : Int) := by omega
          have hme : m = l.length := by omega
          subst hme
          have hoe : out = ordAll l.length (grE l) rd := by have := HOp.out; rwa [Nat.sub_self] at this
          subst hoe
          have HF : Hid (SlAt (fun b => w.heap.size ≤ b ∧ b < wy.heap.size) (StrAt wy) 1 (told l (ordAll l.length (grE l) rd)) u9) := (tx_row HOwn.out (by rw [told_len]; unfold maxLen; omega) (HTz.out _)).imp (fun b hb => ⟨Nat.le_trans hszr hb.1, hb.2⟩) (fun _ _ _ _ _ h => h)
          have HLs := veil (HR.out _ HBy.out)
          have HB := veil (HBl.out.trans (HBy.out.mono hszr))
          clear HOwn HOp HL HA HR
          go_wp2_with fail
          go_ret3
          rw [HE'.out]
          exact ⟨_, _, rfl, HF.out, HLs.out, HB.out⟩

end Go.Proofs.Ytedpiamfpbdhoaa
