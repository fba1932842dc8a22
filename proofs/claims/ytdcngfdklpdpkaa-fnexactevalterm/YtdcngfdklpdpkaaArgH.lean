/- A region that draws its order, in a round of a range over a function: as it goes without a round (any end). -/
import Derived.Test.YtdcngfdklpdpkaaRound
import Derived.OwnWalkIn
namespace Go.Proofs.Ytdcngfdklpdpkaa
open Go.RowKit Go.Shelf

theorem wpIn_region_heldA {n l : Nat} {P : Program} {ops : Array Oper} {Q : Exit → Act → World → Prop} {S : World → Prop} {id : Nat} {a : Act} {w : World} (hm : P.follows .mixedOrders = true) (hd : noDefer ops = true) (hS : S w.drew)
    (h : S w.drew → wpAnyH P .any ops (Exit.then (fun a w => Q .normal a w) (fun _ _ _ => False)) S ops.size (Array.replicate ops.size false) a w.drew) : (Code.region id ops true).wpIn (Fence.wide.inRound l) n P Q a w := by
  refine wpIn_mono (wpIn_region_held (Q' := fun _ _ _ => False) hm hd hS h) ?_
  intro e a' w' hq
  cases e with
  | normal => exact hq
  | exit id => exact hq.elim
  | goto l => exact hq.elim
  | ret => exact hq.elim
  | panic ch => exact hq.elim
  | outgrown => exact hq.elim

end Go.Proofs.Ytdcngfdklpdpkaa
