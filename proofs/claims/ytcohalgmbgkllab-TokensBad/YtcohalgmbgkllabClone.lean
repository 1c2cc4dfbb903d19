/- What strings.Clone answers: the text as it is; nothing that was there has turned. -/
import Derived.Test.YtcohalgmbgkllabTokAt
import Derived.Test.YtcohalgmbgkllabShelf
namespace Go.Proofs.Ytcohalgmbgkllab
open Go.RowKit

theorem clone_said : CloneSaid := by
  intro s w h
  go_enter Try.func38, Try.ntmps38
  go_wp2_with (go_at_call 43; refine (Try.stringslite_Clone s _ h).mono ?_; rintro e w' ⟨rfl, hb⟩)
  go_ret
  exact ⟨rfl, hb⟩

end Go.Proofs.Ytcohalgmbgkllab
