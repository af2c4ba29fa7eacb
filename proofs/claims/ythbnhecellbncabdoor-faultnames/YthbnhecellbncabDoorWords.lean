/-
  barrowref01.Words of a reason.
-/
import Derived.Test.YthbnhecellbncabDoorWakes
namespace Go.Proofs.YthbnhecellbncabDoor
open Go.RowKit Go.Extern.Stop Go.Stop Go.Extern
set_option maxRecDepth 100000

theorem builtWords : Tryd.prog.built 46 [(0, .string ⟨#[]⟩), (1, .string ⟨#[98, 97, 100, 32, 97, 114, 103, 117, 109, 101, 110, 116]⟩), (2, .string ⟨#[111, 117, 116, 32, 111, 102, 32, 114, 97, 110, 103, 101]⟩), (3, .string ⟨#[98, 97, 100, 32, 116, 101, 120, 116]⟩), (4, .string ⟨#[110, 111, 32, 99, 114, 101, 100, 105, 116, 32, 108, 101, 102, 116]⟩), (5, .string ⟨#[102, 114, 111, 122, 101, 110]⟩), (6, .string ⟨#[98, 97, 100, 32, 102, 111, 114, 109]⟩), (7, .string ⟨#[99, 117, 116, 32, 115, 104, 111, 114, 116]⟩), (8, .string ⟨#[110, 111, 116, 32, 121, 101, 116]⟩), (9, .string ⟨#[116, 104, 101, 114, 101, 32, 97, 108, 114, 101, 97, 100, 121]⟩), (10, .string ⟨#[97, 110, 111, 116, 104, 101, 114, 32, 101, 112, 111, 99, 104]⟩), (11, .string ⟨#[98, 117, 115, 121]⟩), (12, .string ⟨#[110, 111, 116, 104, 105, 110, 103, 32, 116, 104, 101, 114, 101]⟩), (13, .string ⟨#[110, 111, 32, 114, 111, 111, 109]⟩)] = some #[.string ⟨#[]⟩, .string ⟨#[98, 97, 100, 32, 97, 114, 103, 117, 109, 101, 110, 116]⟩, .string ⟨#[111, 117, 116, 32, 111, 102, 32, 114, 97, 110, 103, 101]⟩, .string ⟨#[98, 97, 100, 32, 116, 101, 120, 116]⟩, .string ⟨#[110, 111, 32, 99, 114, 101, 100, 105, 116, 32, 108, 101, 102, 116]⟩, .string ⟨#[102, 114, 111, 122, 101, 110]⟩, .string ⟨#[98, 97, 100, 32, 102, 111, 114, 109]⟩, .string ⟨#[99, 117, 116, 32, 115, 104, 111, 114, 116]⟩, .string ⟨#[110, 111, 116, 32, 121, 101, 116]⟩, .string ⟨#[116, 104, 101, 114, 101, 32, 97, 108, 114, 101, 97, 100, 121]⟩, .string ⟨#[97, 110, 111, 116, 104, 101, 114, 32, 101, 112, 111, 99, 104]⟩, .string ⟨#[98, 117, 115, 121]⟩, .string ⟨#[110, 111, 116, 104, 105, 110, 103, 32, 116, 104, 101, 114, 101]⟩, .string ⟨#[110, 111, 32, 114, 111, 111, 109]⟩] := by kernel_rfl

set_option maxHeartbeats 400000 in
theorem words1 (w : World) :
    Calls Tryd.prog 11 #[.int .i64 1] w fun e w' => e = .returned (.string (txt (1 - 1))) ∧ Below w.heap.size w w' := by
  go_enter Tryd.func11, Tryd.ntmps11
  go_wp2_with (with_reducible refine wpList_built rfl 46 _ rfl #[.string ⟨#[]⟩, .string ⟨#[98, 97, 100, 32, 97, 114, 103, 117, 109, 101, 110, 116]⟩, .string ⟨#[111, 117, 116, 32, 111, 102, 32, 114, 97, 110, 103, 101]⟩, .string ⟨#[98, 97, 100, 32, 116, 101, 120, 116]⟩, .string ⟨#[110, 111, 32, 99, 114, 101, 100, 105, 116, 32, 108, 101, 102, 116]⟩, .string ⟨#[102, 114, 111, 122, 101, 110]⟩, .string ⟨#[98, 97, 100, 32, 102, 111, 114, 109]⟩, .string ⟨#[99, 117, 116, 32, 115, 104, 111, 114, 116]⟩, .string ⟨#[110, 111, 116, 32, 121, 101, 116]⟩, .string ⟨#[116, 104, 101, 114, 101, 32, 97, 108, 114, 101, 97, 100, 121]⟩, .string ⟨#[97, 110, 111, 116, 104, 101, 114, 32, 101, 112, 111, 99, 104]⟩, .string ⟨#[98, 117, 115, 121]⟩, .string ⟨#[110, 111, 116, 104, 105, 110, 103, 32, 116, 104, 101, 114, 101]⟩, .string ⟨#[110, 111, 32, 114, 111, 111, 109]⟩] ?_ ?_; exact builtWords)
  go_ret
  exact ⟨rfl, below_one _ _⟩

set_option maxHeartbeats 400000 in
theorem words2 (w : World) :
    Calls Tryd.prog 11 #[.int .i64 2] w fun e w' => e = .returned (.string (txt (2 - 1))) ∧ Below w.heap.size w w' := by
  go_enter Tryd.func11, Tryd.ntmps11
  go_wp2_with (with_reducible refine wpList_built rfl 46 _ rfl #[.string ⟨#[]⟩, .string ⟨#[98, 97, 100, 32, 97, 114, 103, 117, 109, 101, 110, 116]⟩, .string ⟨#[111, 117, 116, 32, 111, 102, 32, 114, 97, 110, 103, 101]⟩, .string ⟨#[98, 97, 100, 32, 116, 101, 120, 116]⟩, .string ⟨#[110, 111, 32, 99, 114, 101, 100, 105, 116, 32, 108, 101, 102, 116]⟩, .string ⟨#[102, 114, 111, 122, 101, 110]⟩, .string ⟨#[98, 97, 100, 32, 102, 111, 114, 109]⟩, .string ⟨#[99, 117, 116, 32, 115, 104, 111, 114, 116]⟩, .string ⟨#[110, 111, 116, 32, 121, 101, 116]⟩, .string ⟨#[116, 104, 101, 114, 101, 32, 97, 108, 114, 101, 97, 100, 121]⟩, .string ⟨#[97, 110, 111, 116, 104, 101, 114, 32, 101, 112, 111, 99, 104]⟩, .string ⟨#[98, 117, 115, 121]⟩, .string ⟨#[110, 111, 116, 104, 105, 110, 103, 32, 116, 104, 101, 114, 101]⟩, .string ⟨#[110, 111, 32, 114, 111, 111, 109]⟩] ?_ ?_; exact builtWords)
  go_ret
  exact ⟨rfl, below_one _ _⟩

set_option maxHeartbeats 400000 in
theorem words3 (w : World) :
    Calls Tryd.prog 11 #[.int .i64 3] w fun e w' => e = .returned (.string (txt (3 - 1))) ∧ Below w.heap.size w w' := by
  go_enter Tryd.func11, Tryd.ntmps11
  go_wp2_with (with_reducible refine wpList_built rfl 46 _ rfl #[.string ⟨#[]⟩, .string ⟨#[98, 97, 100, 32, 97, 114, 103, 117, 109, 101, 110, 116]⟩, .string ⟨#[111, 117, 116, 32, 111, 102, 32, 114, 97, 110, 103, 101]⟩, .string ⟨#[98, 97, 100, 32, 116, 101, 120, 116]⟩, .string ⟨#[110, 111, 32, 99, 114, 101, 100, 105, 116, 32, 108, 101, 102, 116]⟩, .string ⟨#[102, 114, 111, 122, 101, 110]⟩, .string ⟨#[98, 97, 100, 32, 102, 111, 114, 109]⟩, .string ⟨#[99, 117, 116, 32, 115, 104, 111, 114, 116]⟩, .string ⟨#[110, 111, 116, 32, 121, 101, 116]⟩, .string ⟨#[116, 104, 101, 114, 101, 32, 97, 108, 114, 101, 97, 100, 121]⟩, .string ⟨#[97, 110, 111, 116, 104, 101, 114, 32, 101, 112, 111, 99, 104]⟩, .string ⟨#[98, 117, 115, 121]⟩, .string ⟨#[110, 111, 116, 104, 105, 110, 103, 32, 116, 104, 101, 114, 101]⟩, .string ⟨#[110, 111, 32, 114, 111, 111, 109]⟩] ?_ ?_; exact builtWords)
  go_ret
  exact ⟨rfl, below_one _ _⟩

set_option maxHeartbeats 400000 in
theorem words4 (w : World) :
    Calls Tryd.prog 11 #[.int .i64 4] w fun e w' => e = .returned (.string (txt (4 - 1))) ∧ Below w.heap.size w w' := by
  go_enter Tryd.func11, Tryd.ntmps11
  go_wp2_with (with_reducible refine wpList_built rfl 46 _ rfl #[.string ⟨#[]⟩, .string ⟨#[98, 97, 100, 32, 97, 114, 103, 117, 109, 101, 110, 116]⟩, .string ⟨#[111, 117, 116, 32, 111, 102, 32, 114, 97, 110, 103, 101]⟩, .string ⟨#[98, 97, 100, 32, 116, 101, 120, 116]⟩, .string ⟨#[110, 111, 32, 99, 114, 101, 100, 105, 116, 32, 108, 101, 102, 116]⟩, .string ⟨#[102, 114, 111, 122, 101, 110]⟩, .string ⟨#[98, 97, 100, 32, 102, 111, 114, 109]⟩, .string ⟨#[99, 117, 116, 32, 115, 104, 111, 114, 116]⟩, .string ⟨#[110, 111, 116, 32, 121, 101, 116]⟩, .string ⟨#[116, 104, 101, 114, 101, 32, 97, 108, 114, 101, 97, 100, 121]⟩, .string ⟨#[97, 110, 111, 116, 104, 101, 114, 32, 101, 112, 111, 99, 104]⟩, .string ⟨#[98, 117, 115, 121]⟩, .string ⟨#[110, 111, 116, 104, 105, 110, 103, 32, 116, 104, 101, 114, 101]⟩, .string ⟨#[110, 111, 32, 114, 111, 111, 109]⟩] ?_ ?_; exact builtWords)
  go_ret
  exact ⟨rfl, below_one _ _⟩

set_option maxHeartbeats 400000 in
theorem words5 (w : World) :
    Calls Tryd.prog 11 #[.int .i64 5] w fun e w' => e = .returned (.string (txt (5 - 1))) ∧ Below w.heap.size w w' := by
  go_enter Tryd.func11, Tryd.ntmps11
  go_wp2_with (with_reducible refine wpList_built rfl 46 _ rfl #[.string ⟨#[]⟩, .string ⟨#[98, 97, 100, 32, 97, 114, 103, 117, 109, 101, 110, 116]⟩, .string ⟨#[111, 117, 116, 32, 111, 102, 32, 114, 97, 110, 103, 101]⟩, .string ⟨#[98, 97, 100, 32, 116, 101, 120, 116]⟩, .string ⟨#[110, 111, 32, 99, 114, 101, 100, 105, 116, 32, 108, 101, 102, 116]⟩, .string ⟨#[102, 114, 111, 122, 101, 110]⟩, .string ⟨#[98, 97, 100, 32, 102, 111, 114, 109]⟩, .string ⟨#[99, 117, 116, 32, 115, 104, 111, 114, 116]⟩, .string ⟨#[110, 111, 116, 32, 121, 101, 116]⟩, .string ⟨#[116, 104, 101, 114, 101, 32, 97, 108, 114, 101, 97, 100, 121]⟩, .string ⟨#[97, 110, 111, 116, 104, 101, 114, 32, 101, 112, 111, 99, 104]⟩, .string ⟨#[98, 117, 115, 121]⟩, .string ⟨#[110, 111, 116, 104, 105, 110, 103, 32, 116, 104, 101, 114, 101]⟩, .string ⟨#[110, 111, 32, 114, 111, 111, 109]⟩] ?_ ?_; exact builtWords)
  go_ret
  exact ⟨rfl, below_one _ _⟩

set_option maxHeartbeats 400000 in
theorem words6 (w : World) :
    Calls Tryd.prog 11 #[.int .i64 6] w fun e w' => e = .returned (.string (txt (6 - 1))) ∧ Below w.heap.size w w' := by
  go_enter Tryd.func11, Tryd.ntmps11
  go_wp2_with (with_reducible refine wpList_built rfl 46 _ rfl #[.string ⟨#[]⟩, .string ⟨#[98, 97, 100, 32, 97, 114, 103, 117, 109, 101, 110, 116]⟩, .string ⟨#[111, 117, 116, 32, 111, 102, 32, 114, 97, 110, 103, 101]⟩, .string ⟨#[98, 97, 100, 32, 116, 101, 120, 116]⟩, .string ⟨#[110, 111, 32, 99, 114, 101, 100, 105, 116, 32, 108, 101, 102, 116]⟩, .string ⟨#[102, 114, 111, 122, 101, 110]⟩, .string ⟨#[98, 97, 100, 32, 102, 111, 114, 109]⟩, .string ⟨#[99, 117, 116, 32, 115, 104, 111, 114, 116]⟩, .string ⟨#[110, 111, 116, 32, 121, 101, 116]⟩, .string ⟨#[116, 104, 101, 114, 101, 32, 97, 108, 114, 101, 97, 100, 121]⟩, .string ⟨#[97, 110, 111, 116, 104, 101, 114, 32, 101, 112, 111, 99, 104]⟩, .string ⟨#[98, 117, 115, 121]⟩, .string ⟨#[110, 111, 116, 104, 105, 110, 103, 32, 116, 104, 101, 114, 101]⟩, .string ⟨#[110, 111, 32, 114, 111, 111, 109]⟩] ?_ ?_; exact builtWords)
  go_ret
  exact ⟨rfl, below_one _ _⟩

set_option maxHeartbeats 400000 in
theorem words7 (w : World) :
    Calls Tryd.prog 11 #[.int .i64 7] w fun e w' => e = .returned (.string (txt (7 - 1))) ∧ Below w.heap.size w w' := by
  go_enter Tryd.func11, Tryd.ntmps11
  go_wp2_with (with_reducible refine wpList_built rfl 46 _ rfl #[.string ⟨#[]⟩, .string ⟨#[98, 97, 100, 32, 97, 114, 103, 117, 109, 101, 110, 116]⟩, .string ⟨#[111, 117, 116, 32, 111, 102, 32, 114, 97, 110, 103, 101]⟩, .string ⟨#[98, 97, 100, 32, 116, 101, 120, 116]⟩, .string ⟨#[110, 111, 32, 99, 114, 101, 100, 105, 116, 32, 108, 101, 102, 116]⟩, .string ⟨#[102, 114, 111, 122, 101, 110]⟩, .string ⟨#[98, 97, 100, 32, 102, 111, 114, 109]⟩, .string ⟨#[99, 117, 116, 32, 115, 104, 111, 114, 116]⟩, .string ⟨#[110, 111, 116, 32, 121, 101, 116]⟩, .string ⟨#[116, 104, 101, 114, 101, 32, 97, 108, 114, 101, 97, 100, 121]⟩, .string ⟨#[97, 110, 111, 116, 104, 101, 114, 32, 101, 112, 111, 99, 104]⟩, .string ⟨#[98, 117, 115, 121]⟩, .string ⟨#[110, 111, 116, 104, 105, 110, 103, 32, 116, 104, 101, 114, 101]⟩, .string ⟨#[110, 111, 32, 114, 111, 111, 109]⟩] ?_ ?_; exact builtWords)
  go_ret
  exact ⟨rfl, below_one _ _⟩

set_option maxHeartbeats 400000 in
theorem words8 (w : World) :
    Calls Tryd.prog 11 #[.int .i64 8] w fun e w' => e = .returned (.string (txt (8 - 1))) ∧ Below w.heap.size w w' := by
  go_enter Tryd.func11, Tryd.ntmps11
  go_wp2_with (with_reducible refine wpList_built rfl 46 _ rfl #[.string ⟨#[]⟩, .string ⟨#[98, 97, 100, 32, 97, 114, 103, 117, 109, 101, 110, 116]⟩, .string ⟨#[111, 117, 116, 32, 111, 102, 32, 114, 97, 110, 103, 101]⟩, .string ⟨#[98, 97, 100, 32, 116, 101, 120, 116]⟩, .string ⟨#[110, 111, 32, 99, 114, 101, 100, 105, 116, 32, 108, 101, 102, 116]⟩, .string ⟨#[102, 114, 111, 122, 101, 110]⟩, .string ⟨#[98, 97, 100, 32, 102, 111, 114, 109]⟩, .string ⟨#[99, 117, 116, 32, 115, 104, 111, 114, 116]⟩, .string ⟨#[110, 111, 116, 32, 121, 101, 116]⟩, .string ⟨#[116, 104, 101, 114, 101, 32, 97, 108, 114, 101, 97, 100, 121]⟩, .string ⟨#[97, 110, 111, 116, 104, 101, 114, 32, 101, 112, 111, 99, 104]⟩, .string ⟨#[98, 117, 115, 121]⟩, .string ⟨#[110, 111, 116, 104, 105, 110, 103, 32, 116, 104, 101, 114, 101]⟩, .string ⟨#[110, 111, 32, 114, 111, 111, 109]⟩] ?_ ?_; exact builtWords)
  go_ret
  exact ⟨rfl, below_one _ _⟩

set_option maxHeartbeats 400000 in
theorem words9 (w : World) :
    Calls Tryd.prog 11 #[.int .i64 9] w fun e w' => e = .returned (.string (txt (9 - 1))) ∧ Below w.heap.size w w' := by
  go_enter Tryd.func11, Tryd.ntmps11
  go_wp2_with (with_reducible refine wpList_built rfl 46 _ rfl #[.string ⟨#[]⟩, .string ⟨#[98, 97, 100, 32, 97, 114, 103, 117, 109, 101, 110, 116]⟩, .string ⟨#[111, 117, 116, 32, 111, 102, 32, 114, 97, 110, 103, 101]⟩, .string ⟨#[98, 97, 100, 32, 116, 101, 120, 116]⟩, .string ⟨#[110, 111, 32, 99, 114, 101, 100, 105, 116, 32, 108, 101, 102, 116]⟩, .string ⟨#[102, 114, 111, 122, 101, 110]⟩, .string ⟨#[98, 97, 100, 32, 102, 111, 114, 109]⟩, .string ⟨#[99, 117, 116, 32, 115, 104, 111, 114, 116]⟩, .string ⟨#[110, 111, 116, 32, 121, 101, 116]⟩, .string ⟨#[116, 104, 101, 114, 101, 32, 97, 108, 114, 101, 97, 100, 121]⟩, .string ⟨#[97, 110, 111, 116, 104, 101, 114, 32, 101, 112, 111, 99, 104]⟩, .string ⟨#[98, 117, 115, 121]⟩, .string ⟨#[110, 111, 116, 104, 105, 110, 103, 32, 116, 104, 101, 114, 101]⟩, .string ⟨#[110, 111, 32, 114, 111, 111, 109]⟩] ?_ ?_; exact builtWords)
  go_ret
  exact ⟨rfl, below_one _ _⟩

set_option maxHeartbeats 400000 in
theorem words10 (w : World) :
    Calls Tryd.prog 11 #[.int .i64 10] w fun e w' => e = .returned (.string (txt (10 - 1))) ∧ Below w.heap.size w w' := by
  go_enter Tryd.func11, Tryd.ntmps11
  go_wp2_with (with_reducible refine wpList_built rfl 46 _ rfl #[.string ⟨#[]⟩, .string ⟨#[98, 97, 100, 32, 97, 114, 103, 117, 109, 101, 110, 116]⟩, .string ⟨#[111, 117, 116, 32, 111, 102, 32, 114, 97, 110, 103, 101]⟩, .string ⟨#[98, 97, 100, 32, 116, 101, 120, 116]⟩, .string ⟨#[110, 111, 32, 99, 114, 101, 100, 105, 116, 32, 108, 101, 102, 116]⟩, .string ⟨#[102, 114, 111, 122, 101, 110]⟩, .string ⟨#[98, 97, 100, 32, 102, 111, 114, 109]⟩, .string ⟨#[99, 117, 116, 32, 115, 104, 111, 114, 116]⟩, .string ⟨#[110, 111, 116, 32, 121, 101, 116]⟩, .string ⟨#[116, 104, 101, 114, 101, 32, 97, 108, 114, 101, 97, 100, 121]⟩, .string ⟨#[97, 110, 111, 116, 104, 101, 114, 32, 101, 112, 111, 99, 104]⟩, .string ⟨#[98, 117, 115, 121]⟩, .string ⟨#[110, 111, 116, 104, 105, 110, 103, 32, 116, 104, 101, 114, 101]⟩, .string ⟨#[110, 111, 32, 114, 111, 111, 109]⟩] ?_ ?_; exact builtWords)
  go_ret
  exact ⟨rfl, below_one _ _⟩

set_option maxHeartbeats 400000 in
theorem words11 (w : World) :
    Calls Tryd.prog 11 #[.int .i64 11] w fun e w' => e = .returned (.string (txt (11 - 1))) ∧ Below w.heap.size w w' := by
  go_enter Tryd.func11, Tryd.ntmps11
  go_wp2_with (with_reducible refine wpList_built rfl 46 _ rfl #[.string ⟨#[]⟩, .string ⟨#[98, 97, 100, 32, 97, 114, 103, 117, 109, 101, 110, 116]⟩, .string ⟨#[111, 117, 116, 32, 111, 102, 32, 114, 97, 110, 103, 101]⟩, .string ⟨#[98, 97, 100, 32, 116, 101, 120, 116]⟩, .string ⟨#[110, 111, 32, 99, 114, 101, 100, 105, 116, 32, 108, 101, 102, 116]⟩, .string ⟨#[102, 114, 111, 122, 101, 110]⟩, .string ⟨#[98, 97, 100, 32, 102, 111, 114, 109]⟩, .string ⟨#[99, 117, 116, 32, 115, 104, 111, 114, 116]⟩, .string ⟨#[110, 111, 116, 32, 121, 101, 116]⟩, .string ⟨#[116, 104, 101, 114, 101, 32, 97, 108, 114, 101, 97, 100, 121]⟩, .string ⟨#[97, 110, 111, 116, 104, 101, 114, 32, 101, 112, 111, 99, 104]⟩, .string ⟨#[98, 117, 115, 121]⟩, .string ⟨#[110, 111, 116, 104, 105, 110, 103, 32, 116, 104, 101, 114, 101]⟩, .string ⟨#[110, 111, 32, 114, 111, 111, 109]⟩] ?_ ?_; exact builtWords)
  go_ret
  exact ⟨rfl, below_one _ _⟩

set_option maxHeartbeats 400000 in
theorem words12 (w : World) :
    Calls Tryd.prog 11 #[.int .i64 12] w fun e w' => e = .returned (.string (txt (12 - 1))) ∧ Below w.heap.size w w' := by
  go_enter Tryd.func11, Tryd.ntmps11
  go_wp2_with (with_reducible refine wpList_built rfl 46 _ rfl #[.string ⟨#[]⟩, .string ⟨#[98, 97, 100, 32, 97, 114, 103, 117, 109, 101, 110, 116]⟩, .string ⟨#[111, 117, 116, 32, 111, 102, 32, 114, 97, 110, 103, 101]⟩, .string ⟨#[98, 97, 100, 32, 116, 101, 120, 116]⟩, .string ⟨#[110, 111, 32, 99, 114, 101, 100, 105, 116, 32, 108, 101, 102, 116]⟩, .string ⟨#[102, 114, 111, 122, 101, 110]⟩, .string ⟨#[98, 97, 100, 32, 102, 111, 114, 109]⟩, .string ⟨#[99, 117, 116, 32, 115, 104, 111, 114, 116]⟩, .string ⟨#[110, 111, 116, 32, 121, 101, 116]⟩, .string ⟨#[116, 104, 101, 114, 101, 32, 97, 108, 114, 101, 97, 100, 121]⟩, .string ⟨#[97, 110, 111, 116, 104, 101, 114, 32, 101, 112, 111, 99, 104]⟩, .string ⟨#[98, 117, 115, 121]⟩, .string ⟨#[110, 111, 116, 104, 105, 110, 103, 32, 116, 104, 101, 114, 101]⟩, .string ⟨#[110, 111, 32, 114, 111, 111, 109]⟩] ?_ ?_; exact builtWords)
  go_ret
  exact ⟨rfl, below_one _ _⟩

set_option maxHeartbeats 400000 in
theorem words13 (w : World) :
    Calls Tryd.prog 11 #[.int .i64 13] w fun e w' => e = .returned (.string (txt (13 - 1))) ∧ Below w.heap.size w w' := by
  go_enter Tryd.func11, Tryd.ntmps11
  go_wp2_with (with_reducible refine wpList_built rfl 46 _ rfl #[.string ⟨#[]⟩, .string ⟨#[98, 97, 100, 32, 97, 114, 103, 117, 109, 101, 110, 116]⟩, .string ⟨#[111, 117, 116, 32, 111, 102, 32, 114, 97, 110, 103, 101]⟩, .string ⟨#[98, 97, 100, 32, 116, 101, 120, 116]⟩, .string ⟨#[110, 111, 32, 99, 114, 101, 100, 105, 116, 32, 108, 101, 102, 116]⟩, .string ⟨#[102, 114, 111, 122, 101, 110]⟩, .string ⟨#[98, 97, 100, 32, 102, 111, 114, 109]⟩, .string ⟨#[99, 117, 116, 32, 115, 104, 111, 114, 116]⟩, .string ⟨#[110, 111, 116, 32, 121, 101, 116]⟩, .string ⟨#[116, 104, 101, 114, 101, 32, 97, 108, 114, 101, 97, 100, 121]⟩, .string ⟨#[97, 110, 111, 116, 104, 101, 114, 32, 101, 112, 111, 99, 104]⟩, .string ⟨#[98, 117, 115, 121]⟩, .string ⟨#[110, 111, 116, 104, 105, 110, 103, 32, 116, 104, 101, 114, 101]⟩, .string ⟨#[110, 111, 32, 114, 111, 111, 109]⟩] ?_ ?_; exact builtWords)
  go_ret
  exact ⟨rfl, below_one _ _⟩

theorem words_any (w : World) (k : Nat) (hk : k < 13) :
    Calls Tryd.prog 11 #[.int .i64 ((k : Int) + 1)] w fun e w' => e = .returned (.string (txt k)) ∧ Below w.heap.size w w' := by
  match k, hk with
  | 0, _ => exact words1 w
  | 1, _ => exact words2 w
  | 2, _ => exact words3 w
  | 3, _ => exact words4 w
  | 4, _ => exact words5 w
  | 5, _ => exact words6 w
  | 6, _ => exact words7 w
  | 7, _ => exact words8 w
  | 8, _ => exact words9 w
  | 9, _ => exact words10 w
  | 10, _ => exact words11 w
  | 11, _ => exact words12 w
  | 12, _ => exact words13 w

set_option maxHeartbeats 400000 in
theorem refWords_any (w : World) (k : Nat) (hk : k < 13) :
    Calls Tryd.prog 8 #[.agg #[.int .i64 1, .int .i64 ((k : Int) + 1), .string ⟨#[]⟩, .string ⟨#[]⟩, .int .i64 0, .slice none 0 0]] w fun e w' => e = .returned (.string (txt k)) ∧ Below w.heap.size w w' := by
  have hb0 := below_one w (.cells #[.int .i64 1, .int .i64 ((k : Int) + 1), .string ⟨#[]⟩, .string ⟨#[]⟩, .int .i64 0, .slice none 0 0] 32)
  go_enter Tryd.func8, Tryd.ntmps8
  go_wp2_with (go_at_call 11; refine (words_any _ k hk).mono ?_; rintro e w1 ⟨rfl, hb1⟩)
  go_ret
  exact ⟨rfl, bgo hb0 hb1⟩
end Go.Proofs.YthbnhecellbncabDoor
