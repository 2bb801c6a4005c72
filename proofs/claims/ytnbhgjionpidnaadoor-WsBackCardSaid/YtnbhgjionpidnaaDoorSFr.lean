/- Four bytes and a frame, as arguments. No condition. -/
import Derived.Test.YtnbhgjionpidnaaDoorMem
namespace Go.Proofs.YtnbhgjionpidnaaDoor
open Go.RowKit

def msA (M : Nat → Nat) : Array Value := #[.int .u8 (M 0 : Nat), .int .u8 (M 1 : Nat), .int .u8 (M 2 : Nat), .int .u8 (M 3 : Nat)]
def frO (fin : Bool) (op : Int) (msk : Bool) (M : Nat → Nat) (p : ByteArray) : Array Value := #[.bool fin, .int .i64 op, .bool msk, .int .u8 (M 0 : Nat), .int .u8 (M 1 : Nat), .int .u8 (M 2 : Nat), .int .u8 (M 3 : Nat), .string p]
end Go.Proofs.YtnbhgjionpidnaaDoor
