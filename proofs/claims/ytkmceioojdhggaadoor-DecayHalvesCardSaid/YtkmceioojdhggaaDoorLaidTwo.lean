import Derived.Test.YtkmceioojdhggaaDoorLawTwoT
import Derived.Lib.LaidTab
import Derived.ProofKit
import Derived.LaidMore
import Derived.Stop.Joined
namespace Go.Proofs.YtkmceioojdhggaaDoor
open Go Go.RowKit

theorem gPow : Tryd.prog.globalNamed "tithebarn/decay.powers" = some 0 := by kernel_rfl

theorem tPow : (Tryd.prog.globals[0]?).map (·.type) = some 29 := by kernel_rfl

theorem hasTab_of_laid {W : World} (h : laidMetH Tryd.prog [("tithebarn/decay.powers", Rows.laid_tithebarn_decay_powers)] W) : HasTab W := by
  rw [MakeChecks.laidMetH_plain _ _ _ (by kernel_rfl)] at h
  have h' : laidMet Tryd.prog (("tithebarn/decay.powers", Lib.tabData .u64 Dec.tab) :: []) W := h
  have hT := Lib.tabIs_of_head gPow tPow Tryd.underlying29 Tryd.underlying23 (by kernel_rfl) (by kernel_rfl) h'
  unfold Lib.TabIs World.var? at hT
  rw [gPow] at hT
  simp only [Option.bind_some] at hT
  split at hT
  · rename_i cs t fr hg
    obtain rfl := Option.some.inj hT
    exact ⟨t, fr, hg⟩
  · cases hT

end Go.Proofs.YtkmceioojdhggaaDoor
