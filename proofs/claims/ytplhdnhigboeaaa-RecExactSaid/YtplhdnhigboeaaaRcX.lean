/-
  What the laws of package rec ask of its functions holds of the developers' code, in every world. No condition.
-/
import Derived.Test.YtplhdnhigboeaaaRcYF
import Derived.Test.YtplhdnhigboeaaaRcYI
import Derived.Test.YtplhdnhigboeaaaRcYK
namespace Go.Proofs.Ytplhdnhigboeaaa.lrc
open Go.RowKit Go.Lib
open Go.Proofs.Ytplhdnhigboeaaa.gmt (Ok)
open Go.Proofs.Ytplhdnhigboeaaa.anc (bl kal kst ks bm ka)
open Go.Proofs.Ytplhdnhigboeaaa.tbl (C1 c1_new G5 g5_new)
open Go.Proofs.Ytplhdnhigboeaaa.img

theorem crd_any (w : World) : Crd w where
  check := fun c z d s l a r n W _ hx hn hn1 hc => check_c c z d s l a r n W hx hn hn1 hc
  image := fun c z d s l a x n W _ hx hn hn1 hc => image_c c z d s l a x n W hx hn hn1 hc
  bytes := fun z d s l a r n W _ ho hx hn hr => bytes_c z d s l a r n W ho hx hn hr
  bytes_no := fun z d s l a r n W _ hno hx hn hn1 => bytes_no_c z d s l a r n W hno hx hn hn1
  read := fun z d s l a A n c b W _ ho hn hc hm hl hA hr => read_yes_c z d s l a A n c b W ho hn hc hm hl hA hr
  read_no := fun v z d s l a A n c b W _ hv hn hc hm hl hA => read_no_c v z d s l a A n c b W hv hn hc hm hl hA
  txn := fun z d s l a sq ep g n W _ ho hsq hep hg hn him hn1 => txn_c z d s l a sq ep g n W ho hsq hep hg hn him hn1
  txn_no := fun v z d s l a sq ep g n W _ hv hg hn hn1 hs => txn_no_c v z d s l a sq ep g n W hv hg hn hn1 hs
  cell := fun z d s l a cp sl r n W _ ho hx hn hr hs => cell_c z d s l a cp sl r n W ho hx hn hr hs
  cell_no := fun z d s l a cp sl r n W _ hno hx hn hn1 => cell_no_c z d s l a cp sl r n W hno hx hn hn1
end Go.Proofs.Ytplhdnhigboeaaa.lrc
