/-
  LaidR.
-/
import Derived.Test.YtnghanpmmbcbbaaGreatDoorMq12
namespace Go.Proofs.YtnghanpmmbcbbaaGreatDoor
open Go.RowKit
def seatLaidR:List (String×DataW Unit):=Rows.sourceReturnsRow.laid
theorem laid_ofR {W:World} (h0:laidMetH Tryz.prog seatLaidR W):Laid W:=by
 have h:laidMet Tryz.prog seatLaidR W:=by
  rw [MakeChecks.laidMetH_plain _ _ _ (by kernel_rfl)] at h0
  exact h0
 have h3:=h.tail.tail
 refine ⟨Lib.tabIs_of_head gTab gTabType Tryz.underlying230 Tryz.underlying215 cellsU64 cellsTab h3,?_⟩
 ·obtain ⟨ps,⟨g',t',cs,fuel,p,q,hg',ht',hvar,hd,_,_⟩,_⟩:=h3.tail.tail.tail
  obtain rfl:=Option.some.inj (gWords.symm.trans hg')
  obtain rfl:=Option.some.inj (gWordsType.symm.trans ht')
  rw [hvar,← cells_of_strs (ss:=goalStrs) Tryz.underlying169 Tryz.underlying9 cellsStr cellsWords hd]
theorem door_metR (os:Os) (args:Array Value):laidMetH Tryz.prog seatLaidR ((World.doorLaid Tryz.prog 400 os).forCall (fun _ _=>0) ⟨#[],args,[]⟩).memory :=
 laidMetH_of_parts3 (fuel:=8) (laidMet_of_run' 8 (by kernel_rfl) (by kernel_rfl)) (by kernel_rfl) (by kernel_rfl)
end Go.Proofs.YtnghanpmmbcbbaaGreatDoor
