/- What slices.Sort and slices.Compact do with texts. -/
import Derived.Test.YtfnlnigeaioocaaGreatProg
import Derived.Shelf.SlGeneric
import Derived.Shelf.SortM.Plain
import Derived.Shelf.SortM.SortNone
import Derived.Shelf.SlicesG.CompactS
import Derived.Ground.SlgmProg
import Derived.Ground.SlgnProg
namespace Go.Proofs
open Go.RowKit Go.Sort Go.Shelf

shelf_lay_g SlLaysM.n6 Slgm 6 at Tryz 25 as YtfnlnigeaioocaaGreat.laysSort
shelf_lay_g SlLaysN.n44 Slgn 44 at Tryz 26 as YtfnlnigeaioocaaGreat.laysCompact

namespace YtfnlnigeaioocaaGreat
theorem sortTexts_any (blk off cap : Nat) (ss : List (List UInt8)) (w : World) (hH : Holds encStr w blk off ss.toArray) (hblk : blk < w.heap.size) (hsz : ss.length < 4611686018427387904) :
    Calls Tryz.prog 25 #[.slice (some ⟨blk, off, none⟩) ss.length cap] w fun e w' => e = .returned (.tuple #[]) ∧ ∃ n os, w' = grow (putRow encStr (Sort.ahead w n) blk off (ss.mergeSort fun x y => decide (x ≤ y)).toArray) os := AnyM.slices_Sort_string laysSort blk off cap ss w hH hblk hsz
theorem compactTexts_any (blk off cap : Nat) (zs : List (List UInt8)) (w : World) (hH : Holds encStr w blk off zs.toArray) (hsz : zs.length ≤ 9223372036854775807) (hcap : zs.length ≤ cap) :
    Calls Tryz.prog 26 #[.slice (some ⟨blk, off, none⟩) zs.length cap] w fun e w' => e = .returned (.slice (some ⟨blk, off, none⟩) (Lib.compact zs).length cap) ∧ ∃ q, w' = putRow encStr (Sort.ahead w q) blk off (Lib.compact zs ++ List.replicate (zs.length - (Lib.compact zs).length) []).toArray := AnyG.slices_Compact_string laysCompact blk off cap zs w hH hsz hcap
end YtfnlnigeaioocaaGreat
end Go.Proofs
