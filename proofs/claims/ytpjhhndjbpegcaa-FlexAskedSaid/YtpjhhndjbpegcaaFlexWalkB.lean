/-
  The laws FlexCross, FlexBeside, FlexAsked, FlexBack, FlexAcross, FlexMore, of the landed code.
-/
import Derived.Test.YtpjhhndjbpegcaaLand17
import Derived.Test.YtpjhhndjbpegcaaFlex17
import Derived.Test.YtpjhhndjbpegcaaBackW17
import Derived.Test.YtpjhhndjbpegcaaMoreW17
import Derived.Test.YtpjhhndjbpegcaaBesideW17
import Derived.Test.YtpjhhndjbpegcaaAskedW17
import Derived.Test.YtpjhhndjbpegcaaAcrossW17
import Derived.Test.YtpjhhndjbpegcaaOpenHows
namespace Go.Proofs.Ytpjhhndjbpegcaa
open Go.RowKit

theorem awake17_ok : AwakeOK17 16 := awake17_any main17_ok cross17_ok
theorem row_cap17b {w : World} {A : Option Addr} {n c : Nat} {z : List Int} (h : RowIn w A n c z) : n ≤ c ∧ c ≤ 9223372036854775807 := by
  rcases h with ⟨-, rfl, rfl, -⟩ | ⟨x, -, h1, h2, -⟩
  · exact ⟨Nat.le_refl _, by omega⟩
  · exact ⟨h1, by unfold maxLen at h2; omega⟩
theorem i64_in17 {a : Int} (h : (Lit.int .i64 a).wf = true) : -9223372036854775808 ≤ a ∧ a ≤ 9223372036854775807 := by
  have h1 : IntKind.i64.min = -9223372036854775808 := by decide
  have h2 : IntKind.i64.max = 9223372036854775807 := by decide
  simpa only [Lit.wf, h1, h2, Bool.and_eq_true, decide_eq_true_eq] using h
theorem u8_in17 {a : Int} (h : (Lit.int .u8 a).wf = true) : 0 ≤ a ∧ a ≤ 255 := by
  have h1 : IntKind.u8.min = 0 := by decide
  have h2 : IntKind.u8.max = 255 := by decide
  simpa only [Lit.wf, h1, h2, Bool.and_eq_true, decide_eq_true_eq] using h
theorem walkFlexCross (a0 : Int) (a1 : Int) (a2 : Int) (w0 : (Lit.int .i64 a0).wf = true) (w1 : (Lit.int .i64 a1).wf = true) (w2 : (Lit.int .u8 a2).wf = true) (w : World) :
    Calls Try.prog 4 #[.int .i64 a0, .int .i64 a1, .int .u8 a2] w fun e w' => e = .returned (.bool true) ∧ Below w.heap.size w w' :=
  crossW17 cross17_ok a0 a1 a2 w (i64_in17 w0) (i64_in17 w1) (u8_in17 w2)
theorem walkFlexBack (a0 : Option Addr) (len0 cap0 : Nat) (z0 : List Int) (z1 : Hw) (w : World) (w0 : RowIn w a0 len0 cap0 z0) (w1 : BigH z1) :
    Calls Try.prog 7 #[.slice a0 len0 cap0, hwV z1] w fun e w' => e = .returned (.bool true) ∧ Below w.heap.size w w' :=
  back17 main17_ok awake17_ok a0 len0 cap0 _ z1.gap z1.room z1.justify z1.back w w0.ints (row_cap17b w0) ⟨w1.2.2.1, by have := w1.2.2.2; omega⟩
theorem walkFlexBeside (a0 : Option Addr) (len0 cap0 : Nat) (z0 : List Int) (z1 : Hw) (w : World) (w0 : RowIn w a0 len0 cap0 z0) (w1 : BigH z1) :
    Calls Try.prog 5 #[.slice a0 len0 cap0, hwV z1] w fun e w' => e = .returned (.bool true) ∧ Below w.heap.size w w' :=
  beside17 main17_ok awake17_ok a0 len0 cap0 _ z1.gap z1.room z1.justify z1.back w w0.ints (row_cap17b w0) ⟨w1.2.2.1, by have := w1.2.2.2; omega⟩
theorem walkFlexAsked (a0 : Option Addr) (len0 cap0 : Nat) (z0 : List Int) (z1 : Hw) (w : World) (w0 : RowIn w a0 len0 cap0 z0) (w1 : BigH z1) :
    Calls Try.prog 6 #[.slice a0 len0 cap0, hwV z1] w fun e w' => e = .returned (.bool true) ∧ Below w.heap.size w w' :=
  asked17 main17_ok awake17_ok a0 len0 cap0 _ z1.gap z1.room z1.justify z1.back w w0.ints (row_cap17b w0) ⟨w1.2.2.1, by have := w1.2.2.2; omega⟩
theorem walkFlexMore (a0 : Option Addr) (len0 cap0 : Nat) (z0 : List Int) (z1 : Hw) (a2 : Int) (w : World) (w0 : RowIn w a0 len0 cap0 z0) (w1 : BigH z1) (_w2 : (Lit.int .i64 a2).wf = true) :
    Calls Try.prog 9 #[.slice a0 len0 cap0, hwV z1, .int .i64 a2] w fun e w' => e = .returned (.bool true) ∧ Below w.heap.size w w' :=
  more17 main17_ok awake17_ok a0 len0 cap0 _ z1.gap z1.room z1.justify z1.back a2 w w0.ints (row_cap17b w0) ⟨w1.2.2.1, by have := w1.2.2.2; omega⟩
theorem walkFlexAcross (a0 : Int) (a1 : Int) (_w0 : (Lit.int .i64 a0).wf = true) (_w1 : (Lit.int .i64 a1).wf = true) (w : World) :
    Calls Try.prog 8 #[.int .i64 a0, .int .i64 a1] w fun e w' => e = .returned (.bool true) ∧ Below w.heap.size w w' :=
  across17 main17_ok cross17_ok awake17_ok a0 a1 w
end Go.Proofs.Ytpjhhndjbpegcaa
