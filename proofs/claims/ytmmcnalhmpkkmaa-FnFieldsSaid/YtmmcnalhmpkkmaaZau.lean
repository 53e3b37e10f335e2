import Derived.Test.YtmmcnalhmpkkmaaZab
import Derived.Test.YtmmcnalhmpkkmaaProg
import Derived.Test.YtmmcnalhmpkkmaaZam
import Derived.Laws.IdiomStrings
import Derived.Deep.QuietTactic
import Derived.BigQuiet
import Derived.Deep.RegionWith
import Derived.Deep.RegionLaw
import Derived.Deep.RegionHeld3
namespace Go.Proofs.Ytmmcnalhmpkkmaa
open Go.RowKit
set_option linter.unusedSimpArgs false
theorem keep_cell {P W' : World} {a : Addr} {v : Value} (hB : Below P.heap.size P W') (h : P.cell? a = some v) : W'.cell? a = some v := (hB.cell (World.block_lt_of_cell? _ _ h)).trans h
end Go.Proofs.Ytmmcnalhmpkkmaa
