/-
  New, of the reference.
-/
import Derived.Test.YtcfngdnmpogaoaaConf
namespace Go.Proofs.Ytcfngdnmpogaoaa
open Go.RowKit

/-- The cells of the reference's flow. -/
structure RSrc where
  opened : Bool
  broken : Bool
  reached : Bool
  reach : Int
  rest : ByteArray

def RSrc.cells (s : RSrc) : List Value := [.bool s.opened, .bool s.broken, .bool s.reached, .int .i64 s.reach, .string s.rest]
def RSrc.zero : RSrc := ⟨false, false, false, 0, ⟨#[]⟩⟩

structure RCounts where
  taken : Int
  late : Int
  range : Int
  full : Int
  marks : Int
  broken : Int

def RCounts.cells (c : RCounts) : List Value := [.int .i64 c.taken, .int .i64 c.late, .int .i64 c.range, .int .i64 c.full, .int .i64 c.marks, .int .i64 c.broken]

structure RCells where
  size : Int
  slide : Int
  late : Int
  keys : Int
  src : List RSrc
  events : Value
  lined : Bool
  line : Int
  done : Value
  n : RCounts

def RCells.cells (r : RCells) : List Value :=
  [.int .i64 r.size, .int .i64 r.slide, .int .i64 r.late, .int .i64 r.keys] ++ r.src.flatMap RSrc.cells ++ [r.events, .bool r.lined, .int .i64 r.line, r.done] ++ r.n.cells

def RCells.new (size slide late keys : Int) : RCells :=
  ⟨size, slide, late, keys, List.replicate 8 RSrc.zero, .slice none 0 0, false, 0, .slice none 0 0, ⟨0, 0, 0, 0, 0, 0⟩⟩

end Go.Proofs.Ytcfngdnmpogaoaa
