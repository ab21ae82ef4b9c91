/-
  The chapter's rows, reckoned.
-/
import Derived.Test.YtfbcafohoabonaaDoorEvalMac32
import Derived.Test.YtfbcafohoabonaaDoorEvalMac64
import Derived.KernelRfl
namespace Go.Proofs.YtfbcafohoabonaaDoor

def k20L : List Nat := [11, 11, 11, 11, 11, 11, 11, 11, 11, 11, 11, 11, 11, 11, 11, 11, 11, 11, 11, 11]
def k22L : List Nat := [11, 11, 11, 11, 11, 11, 11, 11, 11, 11, 11, 11, 11, 11, 11, 11, 11, 11, 11, 11, 11, 11]
def saltL : List Nat := [0, 1, 2, 3, 4, 5, 6, 7, 8, 9, 10, 11, 12]
def infoL : List Nat := [240, 241, 242, 243, 244, 245, 246, 247, 248, 249]
def hiL : List Nat := [72, 105, 32, 84, 104, 101, 114, 101]
def macAL : List Nat := [176, 52, 76, 97, 216, 219, 56, 83, 92, 168, 175, 206, 175, 11, 241, 43, 136, 29, 194, 0, 201, 131, 61, 167, 38, 233, 55, 108, 46, 50, 207, 247]
def macBL : List Nat := [135, 170, 124, 222, 165, 239, 97, 157, 79, 240, 180, 36, 26, 29, 108, 176, 35, 121, 244, 226, 206, 78, 194, 120, 122, 208, 179, 5, 69, 225, 124, 222, 218, 168, 51, 183, 214, 184, 167, 2, 3, 139, 39, 78, 174, 163, 244, 228, 190, 157, 145, 78, 235, 97, 241, 112, 46, 105, 108, 32, 58, 18, 104, 84]
def prkL : List Nat := [7, 119, 9, 54, 44, 46, 50, 223, 13, 220, 63, 13, 196, 123, 186, 99, 144, 182, 199, 59, 181, 15, 156, 49, 34, 236, 132, 74, 215, 194, 179, 229]
def t1L : List Nat := [60, 178, 95, 37, 250, 172, 213, 122, 144, 67, 79, 100, 208, 54, 47, 42, 45, 45, 10, 144, 207, 26, 90, 76, 93, 176, 45, 86, 236, 196, 197, 191]
def t2L : List Nat := [52, 0, 114, 8, 213, 184, 135, 24, 88, 101, 180, 176, 168, 90, 153, 59, 137, 185, 182, 86, 131, 214, 15, 1, 6, 210, 143, 255, 3, 157, 11, 111]
set_option maxRecDepth 100000
theorem macA_val : evalMac32 k20L hiL = macAL := by kernel_rfl
theorem macB_val : evalMac64 k20L hiL = macBL := by kernel_rfl
theorem prk_val : evalMac32 saltL k22L = prkL := by kernel_rfl
theorem t1_val : evalMac32 prkL ([] ++ (infoL ++ [1])) = t1L := by kernel_rfl
theorem t2_val : evalMac32 prkL (t1L ++ (infoL ++ [2])) = t2L := by kernel_rfl
end Go.Proofs.YtfbcafohoabonaaDoor
