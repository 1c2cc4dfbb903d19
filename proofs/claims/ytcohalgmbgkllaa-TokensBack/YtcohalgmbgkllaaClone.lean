/- What strings.Clone answers: the text as it is; nothing that was there has turned. -/
import Derived.Test.YtcohalgmbgkllaaTokAt
import Derived.Test.YtcohalgmbgkllaaShelf
namespace Go.Proofs.Ytcohalgmbgkllaa
open Go.RowKit

theorem clone_said : CloneSaid := by
  intro s w h
  go_enter Try.func56, Try.ntmps56
  go_wp2_with (go_at_call 59; refine (Try.stringslite_Clone s _ h).mono ?_; rintro e w' ⟨rfl, hb⟩)
  go_ret
  exact ⟨rfl, hb⟩

end Go.Proofs.Ytcohalgmbgkllaa
