/-
  What the statements' examples come to.
-/
import Derived.Test.YtofanopnibbaeaaGreatDoorZ16
namespace Go.Proofs.YtofanopnibbaeaaGreatDoor
open Go.RowKit NV
open Go.Lib (decDigits)

def sHalf : ByteArray := ⟨#[49, 47, 50]⟩
def sThird : ByteArray := ⟨#[49, 47, 51]⟩
def sTwoT : ByteArray := ⟨#[50, 47, 51]⟩
def sQuart : ByteArray := ⟨#[49, 47, 52]⟩
def kA : ByteArray := ⟨#[97]⟩
def kB : ByteArray := ⟨#[98]⟩
def kC : ByteArray := ⟨#[99]⟩
def lHalf : List MI := [(kA, sHalf), (kB, sHalf)]
def lThirds : List MI := [(kA, sThird), (kB, sTwoT)]
def lMake : List MI := [(kB, sHalf), (kA, sQuart), (kA, sQuart), (kC, ⟨#[48]⟩)]
theorem ex_chk : chkZ lHalf = 0 := by decide +kernel
theorem ex_mk : mkE lMake = 0 := by decide +kernel
theorem ex_delta : dltE lHalf lThirds ⟨#[49]⟩ = (⟨#[49, 47, 54]⟩, 0) := by decide +kernel
theorem ex_mom : momE lHalf lThirds 2 = (⟨#[57, 47, 56]⟩, true, 0) := by decide +kernel
theorem ex_col : (colO lMake).map (fun S => tZ (outQ S)) = some lHalf := by decide +kernel

end Go.Proofs.YtofanopnibbaeaaGreatDoor
