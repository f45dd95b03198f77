/-
  What the program's functions answer is what the laws want.
-/
import Derived.Test.YtbghekolfcakeaaPrg
import Derived.Test.YtbghekolfcakeaaS16
import Derived.Test.YtbghekolfcakeaaP5
import Derived.Test.YtbghekolfcakeaaP6
namespace Go.Proofs.Ytbghekolfcakeaa
open Go.RowKit

theorem prg : Prg where
  checkLeaf := fun a cap vs hf _ w h => checkLeaf_any a cap vs hf w h
  check := fun v r c hl _ w s => checkV_any v r c hl w s
  covers := fun v u r q c d hv _ _ _ w s _ => covers_any v u r q c d hv w s
  cover := fun a cap vs hf _ w h => (cover_any a cap vs hf w h).mono fun _ _ ⟨r, c, h1, h2, h3, h4, _⟩ => ⟨r, c, h1, h2, h3, h4⟩
  write := fun O a cap vs hf _ p n data w hO h _ => write_any O a cap vs hf p n data w hO h
  erase := fun O a cap vs hf _ p n w hO h _ => erase_any O a cap vs hf p n w hO h
  winner := fun a cap vs hf hp _ w h => winner_any a cap vs hf.1 hp w h
  live := fun a cap vs hf hp _ w h => live_any All a cap vs hf.1 hp w (fun _ _ => trivial) h
  wins := fun v u r q c d _ _ w _ _ => wins_any v u r q c d w
  sync := fun O ra rb ca cb a b fa fb _ _ w hO sa sb pa pb => sync_any O ra rb ca cb a b fa fb w hO sa sb pa pb
  same := fun ra rb ca cb a b fa fb _ _ w sa sb D hD => sameL_any ra rb ca cb a b fa fb w sa sb D hD
end Go.Proofs.Ytbghekolfcakeaa
