/-
  The developers' space keeps the contracts that the laws of layer 17 are walked over.
-/
import Derived.Test.YtilkgjpgoogiiaaGreatSpaI1a
import Derived.Test.YtilkgjpgoogiiaaGreatSpaI4b
import Derived.Test.YtilkgjpgoogiiaaGreatSpaabJ32a
import Derived.Deep.RegionHeld3
import Derived.Deep.DeepCutAuto
set_option maxRecDepth 100000
set_option maxHeartbeats 16000000
set_option linter.unusedVariables false
set_option linter.unusedSimpArgs false
namespace Go.Proofs.YtilkgjpgoogiiaaGreat.Spa
open Go.RowKit Wd Bxs Obs Ths SpaM
open SntM (Pk putErr putL putTop dropL getP getB fly eli)
open Snt (pkC pkV pkA)
open SpnM (R addErr addTo cutErr cutTo has add)
open FrmM (Ack check)
open RttM (Rt)
open Rtt (rtV rtA)
theorem progS : SpaS progO where
  new := fun h room h1 h2 => prog_new h room h1 h2
  bad := fun room h V => prog_bad room h V
  sent := fun s X p _ => prog_sent p
  may := fun s X p _ => prog_may p
  ack := fun k ok h => prog_ack k ok h
  lose := fun now r _ h => prog_lose now r h
  persists := fun _ h i hi _ _ _ _ hS hn r d => prog_persists h i hi hS hn r d
  disc := fun s X _ => prog_disc
  last := fun s X _ => prog_last
  great := fun s X _ => prog_great
  loss := fun s X _ => prog_loss
  time := fun s X _ => prog_time
  flight := fun s X _ => prog_flight
  eliciting := fun s X _ => prog_eliciting
  all := fun _ h i hi => prog_all h i hi
  copy := fun _ h i hi => prog_copy h i hi
end Go.Proofs.YtilkgjpgoogiiaaGreat.Spa
