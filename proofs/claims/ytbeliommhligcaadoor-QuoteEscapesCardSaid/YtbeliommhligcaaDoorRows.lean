/-
  NARROWER THAN 'FOR EVERY INPUT', by the rows' own cells (each row's printed sentence says how): QuoteWrites: laid · QuoteBack: laid · QuoteUnlike: laid · QuoteEscapes: laid · QuoteWithin: laid · QuoteCut: laid.
  DERIVED. THE GIVEN ROWS OF THIS SEAT. 6 by the template 'for every input the law returns true; each argument reads behind the call as it read before'; 0 by the template 'total and deterministic' (their statements: YtbeliommhligcaaDoorTotals.lean).
  GIVEN WITH THE SEED: the statements are not yours to turn. If you find one false, say at which input.
  Laid BY PROGRAM, IN A SANDBOX (cutbox-rows.mjs): the forced cells as the released guide's own fill.sh prints them over the translation 5ca6e6851a2ce3d9… (all of the seat's roots in one cut). By AI agents, Wed Nov 11 2026. No macro, syntax, notation, axiom, sorry.
-/
import Derived.Test.YtbeliommhligcaaDoorChecked
import GoSem.Claim
import GoSem.ClaimJoined
import GoSem.ClaimMapViews
import Derived.JoinedTies
import Derived.KernelRfl
namespace Go.Proofs.YtbeliommhligcaaDoor
/- THE CELL 'sum', in the pinned program and in every row, IS THE sha256 OF THE DUMP (.gsa) THAT YtbeliommhligcaaDoorProg.lean LOADS. Nothing in Lean hashes anything: it is a label: what it is worth is what the hold of that sum in a sandbox is worth. -/
noncomputable def Tryd.pinned : Pinned := { name := "ytbeliommhligcaadoor", sum := "5ca6e6851a2ce3d90310a67aba22306dc1e19648ae81c146ff55e83f6c582b85", checked := Tryd.checked }
namespace Rows
def none {H : Type} : Left H := { results := [], args := [] }

/- WHAT THE LISTED PACKAGE-LEVEL VARIABLES READ AS WHEN THE CALL BEGINS. Each datum BY PROGRAM (the guide's laid-datum.mjs) off the statement by which the dump's own 'gosem.cut.vars' lays the variable. In a bare row this is a premise. The card (YtbeliommhligcaaDoorCards.lean) ties it to the program's text. -/
def laid_legate_hex_digits {H : Type} : DataW H := .agg [.lit (.int .u8 48), .lit (.int .u8 49), .lit (.int .u8 50), .lit (.int .u8 51), .lit (.int .u8 52), .lit (.int .u8 53), .lit (.int .u8 54), .lit (.int .u8 55), .lit (.int .u8 56), .lit (.int .u8 57), .lit (.int .u8 97), .lit (.int .u8 98), .lit (.int .u8 99), .lit (.int .u8 100), .lit (.int .u8 101), .lit (.int .u8 102)]

/-- 'legatelaw05.QuoteWrites': WHATEVER THE INPUT: true; the input reads as it did. -/
def quoteWritesSpec : ChangeSpec := { name := "quoteWrites", fn := fun _ => fun
  | [d] => { results := [.lit (.bool true)], args := [d] }
  | _ => none }
def quoteWritesRow : OpenClaim := { program := "ytbeliommhligcaadoor", sum := "5ca6e6851a2ce3d90310a67aba22306dc1e19648ae81c146ff55e83f6c582b85", func := "legate/legatelaw05.QuoteWrites", spec := "quoteWrites", unfollowed := true, recurses := true, named := ["legate/hex.digits"], apart := false, laid := [("legate/hex.digits", laid_legate_hex_digits)] }
def QuoteWritesSaid : Prop := quoteWritesRow.holds Tryd.pinned (OpenSpec.ofChange quoteWritesSpec)

/-- ITS FALSE NEIGHBOUR: 'it returns false'. Refute it at one input. -/
def quoteWritesWrong : ChangeSpec := { name := "quoteWrites", fn := fun _ => fun
  | [d] => { results := [.lit (.bool false)], args := [d] }
  | _ => none }
def QuoteWritesWrongFalsely : Prop := quoteWritesRow.holds Tryd.pinned (OpenSpec.ofChange quoteWritesWrong)

/-- 'legatelaw05.QuoteBack': WHATEVER THE INPUT: true; the input reads as it did. -/
def quoteBackSpec : ChangeSpec := { name := "quoteBack", fn := fun _ => fun
  | [d1, d2, d3] => { results := [.lit (.bool true)], args := [d1, d2, d3] }
  | _ => none }
def quoteBackRow : OpenClaim := { program := "ytbeliommhligcaadoor", sum := "5ca6e6851a2ce3d90310a67aba22306dc1e19648ae81c146ff55e83f6c582b85", func := "legate/legatelaw05.QuoteBack", spec := "quoteBack", unfollowed := true, recurses := true, named := ["legate/hex.digits"], apart := false, laid := [("legate/hex.digits", laid_legate_hex_digits)] }
def QuoteBackSaid : Prop := quoteBackRow.holds Tryd.pinned (OpenSpec.ofChange quoteBackSpec)

/-- ITS FALSE NEIGHBOUR: 'it returns false'. Refute it at one input. -/
def quoteBackWrong : ChangeSpec := { name := "quoteBack", fn := fun _ => fun
  | [d1, d2, d3] => { results := [.lit (.bool false)], args := [d1, d2, d3] }
  | _ => none }
def QuoteBackWrongFalsely : Prop := quoteBackRow.holds Tryd.pinned (OpenSpec.ofChange quoteBackWrong)

/-- 'legatelaw05.QuoteUnlike': WHATEVER THE INPUT: true; the input reads as it did. -/
def quoteUnlikeSpec : ChangeSpec := { name := "quoteUnlike", fn := fun _ => fun
  | [d1, d2] => { results := [.lit (.bool true)], args := [d1, d2] }
  | _ => none }
def quoteUnlikeRow : OpenClaim := { program := "ytbeliommhligcaadoor", sum := "5ca6e6851a2ce3d90310a67aba22306dc1e19648ae81c146ff55e83f6c582b85", func := "legate/legatelaw05.QuoteUnlike", spec := "quoteUnlike", unfollowed := true, recurses := true, named := ["legate/hex.digits"], apart := false, laid := [("legate/hex.digits", laid_legate_hex_digits)] }
def QuoteUnlikeSaid : Prop := quoteUnlikeRow.holds Tryd.pinned (OpenSpec.ofChange quoteUnlikeSpec)

/-- ITS FALSE NEIGHBOUR: 'it returns false'. Refute it at one input. -/
def quoteUnlikeWrong : ChangeSpec := { name := "quoteUnlike", fn := fun _ => fun
  | [d1, d2] => { results := [.lit (.bool false)], args := [d1, d2] }
  | _ => none }
def QuoteUnlikeWrongFalsely : Prop := quoteUnlikeRow.holds Tryd.pinned (OpenSpec.ofChange quoteUnlikeWrong)

/-- 'legatelaw05.QuoteEscapes': WHATEVER THE INPUT: true; the input reads as it did. -/
def quoteEscapesSpec : ChangeSpec := { name := "quoteEscapes", fn := fun _ => fun
  | [d1, d2, d3, d4, d5] => { results := [.lit (.bool true)], args := [d1, d2, d3, d4, d5] }
  | _ => none }
def quoteEscapesRow : OpenClaim := { program := "ytbeliommhligcaadoor", sum := "5ca6e6851a2ce3d90310a67aba22306dc1e19648ae81c146ff55e83f6c582b85", func := "legate/legatelaw05.QuoteEscapes", spec := "quoteEscapes", unfollowed := true, recurses := true, named := ["legate/hex.digits"], apart := false, laid := [("legate/hex.digits", laid_legate_hex_digits)] }
def QuoteEscapesSaid : Prop := quoteEscapesRow.holds Tryd.pinned (OpenSpec.ofChange quoteEscapesSpec)

/-- ITS FALSE NEIGHBOUR: 'it returns false'. Refute it at one input. -/
def quoteEscapesWrong : ChangeSpec := { name := "quoteEscapes", fn := fun _ => fun
  | [d1, d2, d3, d4, d5] => { results := [.lit (.bool false)], args := [d1, d2, d3, d4, d5] }
  | _ => none }
def QuoteEscapesWrongFalsely : Prop := quoteEscapesRow.holds Tryd.pinned (OpenSpec.ofChange quoteEscapesWrong)

/-- 'legatelaw05.QuoteWithin': WHATEVER THE INPUT: true; the input reads as it did. -/
def quoteWithinSpec : ChangeSpec := { name := "quoteWithin", fn := fun _ => fun
  | [d1, d2] => { results := [.lit (.bool true)], args := [d1, d2] }
  | _ => none }
def quoteWithinRow : OpenClaim := { program := "ytbeliommhligcaadoor", sum := "5ca6e6851a2ce3d90310a67aba22306dc1e19648ae81c146ff55e83f6c582b85", func := "legate/legatelaw05.QuoteWithin", spec := "quoteWithin", unfollowed := true, recurses := true, named := ["legate/hex.digits"], apart := false, laid := [("legate/hex.digits", laid_legate_hex_digits)] }
def QuoteWithinSaid : Prop := quoteWithinRow.holds Tryd.pinned (OpenSpec.ofChange quoteWithinSpec)

/-- ITS FALSE NEIGHBOUR: 'it returns false'. Refute it at one input. -/
def quoteWithinWrong : ChangeSpec := { name := "quoteWithin", fn := fun _ => fun
  | [d1, d2] => { results := [.lit (.bool false)], args := [d1, d2] }
  | _ => none }
def QuoteWithinWrongFalsely : Prop := quoteWithinRow.holds Tryd.pinned (OpenSpec.ofChange quoteWithinWrong)

/-- 'legatelaw05.QuoteCut': WHATEVER THE INPUT: true; the input reads as it did. -/
def quoteCutSpec : ChangeSpec := { name := "quoteCut", fn := fun _ => fun
  | [d1, d2, d3] => { results := [.lit (.bool true)], args := [d1, d2, d3] }
  | _ => none }
def quoteCutRow : OpenClaim := { program := "ytbeliommhligcaadoor", sum := "5ca6e6851a2ce3d90310a67aba22306dc1e19648ae81c146ff55e83f6c582b85", func := "legate/legatelaw05.QuoteCut", spec := "quoteCut", unfollowed := true, recurses := true, named := ["legate/hex.digits"], apart := false, laid := [("legate/hex.digits", laid_legate_hex_digits)] }
def QuoteCutSaid : Prop := quoteCutRow.holds Tryd.pinned (OpenSpec.ofChange quoteCutSpec)

/-- ITS FALSE NEIGHBOUR: 'it returns false'. Refute it at one input. -/
def quoteCutWrong : ChangeSpec := { name := "quoteCut", fn := fun _ => fun
  | [d1, d2, d3] => { results := [.lit (.bool false)], args := [d1, d2, d3] }
  | _ => none }
def QuoteCutWrongFalsely : Prop := quoteCutRow.holds Tryd.pinned (OpenSpec.ofChange quoteCutWrong)

/- THE SECOND FORM. 'bulk': how many values and letters a reading holds, each counted each time it is reached (what is shared counts as often as it is met; a slice's spare places count too). A statement '..UptoSaid' is the law's where the arguments, and the package variables that the reading takes, are together of bulk at most 1048576: NARROWER than '..Said'. Prove '..Said' where nothing that the law and all that it calls make is longer than what came in: it says more and counts as full. Else prove '..UptoSaid'. A law counts once. -/
mutual
def uptoBulk {H : Type} : DataW H → Nat
  | .lit (.string bytes) => bytes.length + 1
  | .lit _ => 1
  | .nil => 1
  | .ptr d => uptoBulk d + 1
  | .slice elems spare => uptoBulkAll elems + uptoBulkAll spare + 1
  | .agg parts => uptoBulkAll parts + 1
  | .iface _ d => uptoBulk d + 1
  | .map entries => uptoBulkEntries entries + 1
  | .held _ => 1
def uptoBulkAll {H : Type} : List (DataW H) → Nat
  | [] => 0
  | d :: r => uptoBulk d + uptoBulkAll r
def uptoBulkEntries {H : Type} : List (Lit × DataW H) → Nat
  | [] => 0
  | x :: r => uptoBulkEntry x + uptoBulkEntries r
def uptoBulkEntry {H : Type} : Lit × DataW H → Nat
  | (.string bytes, d) => bytes.length + uptoBulk d + 1
  | (_, d) => uptoBulk d + 1
 end
def uptoSmall : (H : Type) → List (DataW H) → Bool := fun _ ds => decide (uptoBulkAll ds ≤ 1048576)
def OpenSpec.upto (s : _root_.Go.ChangeSpec) : _root_.Go.OpenSpec := { _root_.Go.OpenSpec.ofChange s with cond := some uptoSmall }

/-- 'legatelaw05.QuoteWrites', WHERE WHAT IT READS IS OF BULK AT MOST 1048576: true; the input reads as it did. -/
def quoteWritesUptoRow : OpenClaim := { program := "ytbeliommhligcaadoor", sum := "5ca6e6851a2ce3d90310a67aba22306dc1e19648ae81c146ff55e83f6c582b85", func := "legate/legatelaw05.QuoteWrites", spec := "quoteWrites", unfollowed := true, recurses := true, named := ["legate/hex.digits"], apart := false, laid := [("legate/hex.digits", laid_legate_hex_digits)], narrowed := true }
def QuoteWritesUptoSaid : Prop := quoteWritesUptoRow.holds Tryd.pinned (OpenSpec.upto quoteWritesSpec)

/-- 'legatelaw05.QuoteBack', WHERE WHAT IT READS IS OF BULK AT MOST 1048576: true; the input reads as it did. -/
def quoteBackUptoRow : OpenClaim := { program := "ytbeliommhligcaadoor", sum := "5ca6e6851a2ce3d90310a67aba22306dc1e19648ae81c146ff55e83f6c582b85", func := "legate/legatelaw05.QuoteBack", spec := "quoteBack", unfollowed := true, recurses := true, named := ["legate/hex.digits"], apart := false, laid := [("legate/hex.digits", laid_legate_hex_digits)], narrowed := true }
def QuoteBackUptoSaid : Prop := quoteBackUptoRow.holds Tryd.pinned (OpenSpec.upto quoteBackSpec)

/-- 'legatelaw05.QuoteUnlike', WHERE WHAT IT READS IS OF BULK AT MOST 1048576: true; the input reads as it did. -/
def quoteUnlikeUptoRow : OpenClaim := { program := "ytbeliommhligcaadoor", sum := "5ca6e6851a2ce3d90310a67aba22306dc1e19648ae81c146ff55e83f6c582b85", func := "legate/legatelaw05.QuoteUnlike", spec := "quoteUnlike", unfollowed := true, recurses := true, named := ["legate/hex.digits"], apart := false, laid := [("legate/hex.digits", laid_legate_hex_digits)], narrowed := true }
def QuoteUnlikeUptoSaid : Prop := quoteUnlikeUptoRow.holds Tryd.pinned (OpenSpec.upto quoteUnlikeSpec)

/-- 'legatelaw05.QuoteEscapes', WHERE WHAT IT READS IS OF BULK AT MOST 1048576: true; the input reads as it did. -/
def quoteEscapesUptoRow : OpenClaim := { program := "ytbeliommhligcaadoor", sum := "5ca6e6851a2ce3d90310a67aba22306dc1e19648ae81c146ff55e83f6c582b85", func := "legate/legatelaw05.QuoteEscapes", spec := "quoteEscapes", unfollowed := true, recurses := true, named := ["legate/hex.digits"], apart := false, laid := [("legate/hex.digits", laid_legate_hex_digits)], narrowed := true }
def QuoteEscapesUptoSaid : Prop := quoteEscapesUptoRow.holds Tryd.pinned (OpenSpec.upto quoteEscapesSpec)

/-- 'legatelaw05.QuoteWithin', WHERE WHAT IT READS IS OF BULK AT MOST 1048576: true; the input reads as it did. -/
def quoteWithinUptoRow : OpenClaim := { program := "ytbeliommhligcaadoor", sum := "5ca6e6851a2ce3d90310a67aba22306dc1e19648ae81c146ff55e83f6c582b85", func := "legate/legatelaw05.QuoteWithin", spec := "quoteWithin", unfollowed := true, recurses := true, named := ["legate/hex.digits"], apart := false, laid := [("legate/hex.digits", laid_legate_hex_digits)], narrowed := true }
def QuoteWithinUptoSaid : Prop := quoteWithinUptoRow.holds Tryd.pinned (OpenSpec.upto quoteWithinSpec)

/-- 'legatelaw05.QuoteCut', WHERE WHAT IT READS IS OF BULK AT MOST 1048576: true; the input reads as it did. -/
def quoteCutUptoRow : OpenClaim := { program := "ytbeliommhligcaadoor", sum := "5ca6e6851a2ce3d90310a67aba22306dc1e19648ae81c146ff55e83f6c582b85", func := "legate/legatelaw05.QuoteCut", spec := "quoteCut", unfollowed := true, recurses := true, named := ["legate/hex.digits"], apart := false, laid := [("legate/hex.digits", laid_legate_hex_digits)], narrowed := true }
def QuoteCutUptoSaid : Prop := quoteCutUptoRow.holds Tryd.pinned (OpenSpec.upto quoteCutSpec)

end Rows
end Go.Proofs.YtbeliommhligcaaDoor
