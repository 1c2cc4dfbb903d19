/- What tree.Read says of texts that declare nothing, and of texts that are deep: by evaluation of what is plain. -/
import Derived.Test.YtmgoabkopacnaacGreatDoorReadAll
import Derived.Lib.Repeat
namespace Go.Proofs.YtmgoabkopacnaacGreatDoor
open Go.RowKit
set_option maxRecDepth 100000

def oddText : Nat → ByteArray
  | 0 => ⟨#[117, 115, 101]⟩
  | 1 => ⟨#[117, 115, 101, 32, 105, 110, 116]⟩
  | 2 => ⟨#[117, 115, 101, 32, 97, 32, 98]⟩
  | 3 => ⟨#[116, 121, 112, 101, 32, 97]⟩
  | 4 => ⟨#[116, 121, 112, 101, 32, 97, 32, 61]⟩
  | 5 => ⟨#[116, 121, 112, 101, 32, 97, 32, 61, 32, 91, 105, 110, 116]⟩
  | 6 => ⟨#[116, 121, 112, 101, 32, 97, 32, 61, 32, 105, 110, 116, 93]⟩
  | 7 => ⟨#[116, 121, 112, 101, 32, 102, 117, 110, 99, 32, 61, 32, 105, 110, 116]⟩
  | 8 => ⟨#[102, 117, 110, 99, 32, 97]⟩
  | 9 => ⟨#[102, 117, 110, 99, 32, 97, 40, 41, 58, 32, 105, 110, 116]⟩
  | 10 => ⟨#[102, 117, 110, 99, 32, 97, 40, 58, 32, 105, 110, 116, 32, 61, 32, 49]⟩
  | 11 => ⟨#[102, 117, 110, 99, 32, 97, 40, 112, 32, 105, 110, 116, 41, 58, 32, 105, 110, 116, 32, 61, 32, 49]⟩
  | 12 => ⟨#[102, 117, 110, 99, 32, 97, 40, 112, 58, 32, 105, 110, 116, 44, 41, 58, 32, 105, 110, 116, 32, 61, 32, 49]⟩
  | 13 => ⟨#[102, 117, 110, 99, 32, 97, 60, 62, 40, 41, 58, 32, 105, 110, 116, 32, 61, 32, 49]⟩
  | 14 => ⟨#[102, 117, 110, 99, 32, 97, 40, 41, 58, 32, 105, 110, 116, 32, 61, 32, 49, 32, 43]⟩
  | 15 => ⟨#[102, 117, 110, 99, 32, 97, 40, 41, 58, 32, 105, 110, 116, 32, 61, 32, 43, 32, 49]⟩
  | 16 => ⟨#[102, 117, 110, 99, 32, 97, 40, 41, 58, 32, 105, 110, 116, 32, 61, 32, 91]⟩
  | 17 => ⟨#[102, 117, 110, 99, 32, 97, 40, 41, 58, 32, 105, 110, 116, 32, 61, 32, 91, 93]⟩
  | 18 => ⟨#[102, 117, 110, 99, 32, 97, 40, 41, 58, 32, 105, 110, 116, 32, 61, 32, 98, 46, 99]⟩
  | 19 => ⟨#[102, 117, 110, 99, 32, 97, 40, 41, 58, 32, 105, 110, 116, 32, 61, 32, 40, 49]⟩
  | 20 => ⟨#[102, 117, 110, 99, 32, 97, 40, 41, 58, 32, 105, 110, 116, 32, 61, 32, 112, 91]⟩
  | 21 => ⟨#[108, 101, 116, 32, 97, 32, 61, 32, 49]⟩
  | 22 => ⟨#[49]⟩
  | _ => ⟨#[97]⟩

set_option maxRecDepth 100000 in
theorem odd_bad : ∀ k < 24, readErr (oddText k ++ ⟨#[10]⟩) = 4 ∧ (readMo (oddText k ++ ⟨#[10]⟩)).uses.length + (readMo (oddText k ++ ⟨#[10]⟩)).types.length + (readMo (oddText k ++ ⟨#[10]⟩)).funcs.length = 0 := by decide +kernel

/-- func a(): int = -/
def deepHead : ByteArray := ⟨#[102, 117, 110, 99, 32, 97, 40, 41, 58, 32, 105, 110, 116, 32, 61, 32]⟩
def deepText (n : Nat) : ByteArray := ⟨(Lib.repeatL [40] n).toArray⟩ ++ ⟨#[49]⟩ ++ ⟨(Lib.repeatL [41] n).toArray⟩

set_option maxRecDepth 100000 in
theorem deep_bad : readErr (deepHead ++ deepText 40) = 1 := by decide +kernel
set_option maxRecDepth 100000 in
theorem deep_ok : readErr (deepHead ++ deepText 39) = 0 := by decide +kernel

end Go.Proofs.YtmgoabkopacnaacGreatDoor
