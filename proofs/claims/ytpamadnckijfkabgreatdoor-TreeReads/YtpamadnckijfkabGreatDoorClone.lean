/- What strings.Clone answers: the text as it is; nothing that was there has turned. -/
import Derived.Test.YtpamadnckijfkabGreatDoorTokAt
import Derived.Test.YtpamadnckijfkabGreatDoorShelf
namespace Go.Proofs.YtpamadnckijfkabGreatDoor
open Go.RowKit
set_option maxRecDepth 100000

theorem clone_said : CloneSaid := by
  intro s w h
  go_enter Tryz.func128, Tryz.ntmps128
  go_wp2_with (go_at_call 141; refine (Tryz.stringslite_Clone s _ h).mono ?_; rintro e w' ⟨rfl, hb⟩)
  go_ret
  exact ⟨rfl, hb⟩

end Go.Proofs.YtpamadnckijfkabGreatDoor
