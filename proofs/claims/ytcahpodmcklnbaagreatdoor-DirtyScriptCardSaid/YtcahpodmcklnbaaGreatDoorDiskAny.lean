/-
  The program's own disk does what the document says, method by method. Conditions: none.
-/
import Derived.Test.YtcahpodmcklnbaaGreatDoorDa
import Derived.Test.YtcahpodmcklnbaaGreatDoorDb
import Derived.Test.YtcahpodmcklnbaaGreatDoorDmCrash
namespace Go.Proofs.YtcahpodmcklnbaaGreatDoor
open Go.RowKit

theorem disks : Disks Tryz.prog DiskAt where
  ok := fun _ _ _ _ h => h.ok
  lt := fun _ _ _ _ h => h.lt
  keep := fun _ _ _ _ _ h hs hk => h.keep hs hk
  new_no := dNew_no
  new_yes := fun n w h1 h2 => dNew n w h1 h2
  write := fun w b F S i A l n c h ho hr hn _ => dWrite w b F S i A l n c h ho hr hn
  flush := fun w b F S h ho => dFlush w b F S h ho
  read := fun w b F S i h => dRead w b F S i h
  crash := fun w b F S A keeps n c tear h hr hn _ => dCrash w b F S A keeps n c tear h hr hn
  turn := fun w b F S i a m h => dTurn w b F S i a m h
  fuse := fun w b F S n h h1 h2 => dFuse w b F S n h h1 h2
  up := dUp
  sectors := dSectors
  ops := dOps
  loose := dLoose
end Go.Proofs.YtcahpodmcklnbaaGreatDoor
