/-
  Edges put in and taken out: what other texts use. (Trimmed, seven texts in one.)
-/
import Derived.Test.YtbacocldjcenjaaDoorNbS
import Derived.Test.YtbacocldjcenjaaDoorGr
import Derived.BigRegion
import Derived.Deep.RegionHeld3
import Derived.Test.YtbacocldjcenjaaDoorCoS
import Derived.Test.YtbacocldjcenjaaDoorNbI
import Derived.Test.YtbacocldjcenjaaDoorRowArr
namespace Go.Proofs.YtbacocldjcenjaaDoor
set_option maxRecDepth 100000
open Go.RowKit

end Go.Proofs.YtbacocldjcenjaaDoor

namespace Go.Proofs.YtbacocldjcenjaaDoor
set_option maxRecDepth 100000
open Go.RowKit

end Go.Proofs.YtbacocldjcenjaaDoor

namespace Go.Proofs.YtbacocldjcenjaaDoor
set_option maxRecDepth 100000
open Go.RowKit

end Go.Proofs.YtbacocldjcenjaaDoor

namespace Go.Proofs.YtbacocldjcenjaaDoor
set_option maxRecDepth 100000
open Go.RowKit

end Go.Proofs.YtbacocldjcenjaaDoor

namespace Go.Proofs.YtbacocldjcenjaaDoor
set_option maxRecDepth 100000
open Go.RowKit

theorem isG_symm {n : Int} {zs : List Int} (hg : isG n zs = true) {a b : Nat} (ha : a < zs.length) (hb : b < zs.length) : bt (el zs b) a = bt (el zs a) b := by
  have h5 := (isG_parts hg).2.2.2.2
  have key : ∀ v w, v < zs.length → w < v → bt (el zs v) w = bt (el zs w) v := by
    intro v w hv hw
    unfold symTo at h5
    have h2 := List.all_eq_true.1 h5 v (List.mem_range.2 hv)
    unfold symAt at h2
    simpa using List.all_eq_true.1 h2 w (List.mem_range.2 hw)
  rcases Nat.lt_trichotomy a b with h | h | h
  · exact key b a hb h
  · rw [h]
  · exact (key a b ha h).symm

end Go.Proofs.YtbacocldjcenjaaDoor

namespace Go.Proofs.YtbacocldjcenjaaDoor
set_option maxRecDepth 100000
open Go.RowKit

end Go.Proofs.YtbacocldjcenjaaDoor

namespace Go.Proofs.YtbacocldjcenjaaDoor
set_option maxRecDepth 100000
open Go.RowKit

end Go.Proofs.YtbacocldjcenjaaDoor
