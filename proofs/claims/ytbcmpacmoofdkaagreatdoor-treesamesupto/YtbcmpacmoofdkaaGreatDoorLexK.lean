/- The kinds of all bytes, as the program tells them. -/
import Derived.Test.YtbcmpacmoofdkaaGreatDoorLexKa
import Derived.Test.YtbcmpacmoofdkaaGreatDoorLexKb
import Derived.Test.YtbcmpacmoofdkaaGreatDoorLexKc
import Derived.Test.YtbcmpacmoofdkaaGreatDoorLexKd
import Derived.Test.YtbcmpacmoofdkaaGreatDoorLexKe
import Derived.Test.YtbcmpacmoofdkaaGreatDoorLexKf
import Derived.Test.YtbcmpacmoofdkaaGreatDoorLexB
import Derived.Test.YtbcmpacmoofdkaaGreatDoorLexX
import Derived.Test.YtbcmpacmoofdkaaGreatDoorProg
import Derived.WalkKit
import Derived.ProofKit
import Derived.OpenShut
import Derived.Below
import Derived.WalkLawsBesides
namespace Go.Proofs.YtbcmpacmoofdkaaGreatDoor
open Go.ChangeShapes Go.WideShapes Go.ChangeAt Go.RowKit

def kindsT (n : Nat) : Nat := kindsN (UInt8.ofNat n)
theorem kindsT_all : ∀ m : Fin 256, kindsT m.val = 0 ∨ m.val ∈ [9, 10, 12, 13, 32, 48, 49, 50, 51, 52, 53, 54, 55, 56, 57, 65, 66, 67, 68, 69, 70, 97, 98, 99, 100, 101, 102, 71, 72, 73, 74, 75, 76, 77, 78, 79, 80, 81, 82, 83, 84, 85, 86, 87, 88, 89, 90, 103, 104, 105, 106, 107, 108, 109, 110, 111, 112, 113, 114, 115, 116, 117, 118, 119, 120, 121, 122, 33, 37, 38, 36, 35, 43, 45, 47, 58, 60, 61, 62, 63, 64, 92, 126, 96, 94, 124, 42, 40, 95, 41, 91, 93, 123, 125, 44, 59, 46, 39, 34] := by decide +kernel
theorem kt9 : kindsT 9 = 1 := by kernel_rfl
theorem kt10 : kindsT 10 = 1 := by kernel_rfl
theorem kt12 : kindsT 12 = 1 := by kernel_rfl
theorem kt13 : kindsT 13 = 1 := by kernel_rfl
theorem kt32 : kindsT 32 = 1 := by kernel_rfl
theorem kt48 : kindsT 48 = 28 := by kernel_rfl
theorem kt49 : kindsT 49 = 28 := by kernel_rfl
theorem kt50 : kindsT 50 = 28 := by kernel_rfl
theorem kt51 : kindsT 51 = 28 := by kernel_rfl
theorem kt52 : kindsT 52 = 28 := by kernel_rfl
theorem kt53 : kindsT 53 = 28 := by kernel_rfl
theorem kt54 : kindsT 54 = 28 := by kernel_rfl
theorem kt55 : kindsT 55 = 28 := by kernel_rfl
theorem kt56 : kindsT 56 = 28 := by kernel_rfl
theorem kt57 : kindsT 57 = 28 := by kernel_rfl
theorem kt65 : kindsT 65 = 26 := by kernel_rfl
theorem kt66 : kindsT 66 = 26 := by kernel_rfl
theorem kt67 : kindsT 67 = 26 := by kernel_rfl
theorem kt68 : kindsT 68 = 26 := by kernel_rfl
theorem kt69 : kindsT 69 = 26 := by kernel_rfl
theorem kt70 : kindsT 70 = 26 := by kernel_rfl
theorem kt97 : kindsT 97 = 26 := by kernel_rfl
theorem kt98 : kindsT 98 = 26 := by kernel_rfl
theorem kt99 : kindsT 99 = 26 := by kernel_rfl
theorem kt100 : kindsT 100 = 26 := by kernel_rfl
theorem kt101 : kindsT 101 = 26 := by kernel_rfl
theorem kt102 : kindsT 102 = 26 := by kernel_rfl
theorem kt71 : kindsT 71 = 18 := by kernel_rfl
theorem kt72 : kindsT 72 = 18 := by kernel_rfl
theorem kt73 : kindsT 73 = 18 := by kernel_rfl
theorem kt74 : kindsT 74 = 18 := by kernel_rfl
theorem kt75 : kindsT 75 = 18 := by kernel_rfl
theorem kt76 : kindsT 76 = 18 := by kernel_rfl
theorem kt77 : kindsT 77 = 18 := by kernel_rfl
theorem kt78 : kindsT 78 = 18 := by kernel_rfl
theorem kt79 : kindsT 79 = 18 := by kernel_rfl
theorem kt80 : kindsT 80 = 18 := by kernel_rfl
theorem kt81 : kindsT 81 = 18 := by kernel_rfl
theorem kt82 : kindsT 82 = 18 := by kernel_rfl
theorem kt83 : kindsT 83 = 18 := by kernel_rfl
theorem kt84 : kindsT 84 = 18 := by kernel_rfl
theorem kt85 : kindsT 85 = 18 := by kernel_rfl
theorem kt86 : kindsT 86 = 18 := by kernel_rfl
theorem kt87 : kindsT 87 = 18 := by kernel_rfl
theorem kt88 : kindsT 88 = 18 := by kernel_rfl
theorem kt89 : kindsT 89 = 18 := by kernel_rfl
theorem kt90 : kindsT 90 = 18 := by kernel_rfl
theorem kt103 : kindsT 103 = 18 := by kernel_rfl
theorem kt104 : kindsT 104 = 18 := by kernel_rfl
theorem kt105 : kindsT 105 = 18 := by kernel_rfl
theorem kt106 : kindsT 106 = 18 := by kernel_rfl
theorem kt107 : kindsT 107 = 18 := by kernel_rfl
theorem kt108 : kindsT 108 = 18 := by kernel_rfl
theorem kt109 : kindsT 109 = 18 := by kernel_rfl
theorem kt110 : kindsT 110 = 18 := by kernel_rfl
theorem kt111 : kindsT 111 = 18 := by kernel_rfl
theorem kt112 : kindsT 112 = 18 := by kernel_rfl
theorem kt113 : kindsT 113 = 18 := by kernel_rfl
theorem kt114 : kindsT 114 = 18 := by kernel_rfl
theorem kt115 : kindsT 115 = 18 := by kernel_rfl
theorem kt116 : kindsT 116 = 18 := by kernel_rfl
theorem kt117 : kindsT 117 = 18 := by kernel_rfl
theorem kt118 : kindsT 118 = 18 := by kernel_rfl
theorem kt119 : kindsT 119 = 18 := by kernel_rfl
theorem kt120 : kindsT 120 = 18 := by kernel_rfl
theorem kt121 : kindsT 121 = 18 := by kernel_rfl
theorem kt122 : kindsT 122 = 18 := by kernel_rfl
theorem kt33 : kindsT 33 = 32 := by kernel_rfl
theorem kt37 : kindsT 37 = 32 := by kernel_rfl
theorem kt38 : kindsT 38 = 32 := by kernel_rfl
theorem kt36 : kindsT 36 = 32 := by kernel_rfl
theorem kt35 : kindsT 35 = 32 := by kernel_rfl
theorem kt43 : kindsT 43 = 32 := by kernel_rfl
theorem kt45 : kindsT 45 = 32 := by kernel_rfl
theorem kt47 : kindsT 47 = 32 := by kernel_rfl
theorem kt58 : kindsT 58 = 32 := by kernel_rfl
theorem kt60 : kindsT 60 = 32 := by kernel_rfl
theorem kt61 : kindsT 61 = 32 := by kernel_rfl
theorem kt62 : kindsT 62 = 32 := by kernel_rfl
theorem kt63 : kindsT 63 = 32 := by kernel_rfl
theorem kt64 : kindsT 64 = 32 := by kernel_rfl
theorem kt92 : kindsT 92 = 32 := by kernel_rfl
theorem kt126 : kindsT 126 = 32 := by kernel_rfl
theorem kt96 : kindsT 96 = 32 := by kernel_rfl
theorem kt94 : kindsT 94 = 32 := by kernel_rfl
theorem kt124 : kindsT 124 = 32 := by kernel_rfl
theorem kt42 : kindsT 42 = 32 := by kernel_rfl
theorem kt40 : kindsT 40 = 64 := by kernel_rfl
theorem kt95 : kindsT 95 = 144 := by kernel_rfl
theorem kt41 : kindsT 41 = 128 := by kernel_rfl
theorem kt91 : kindsT 91 = 128 := by kernel_rfl
theorem kt93 : kindsT 93 = 128 := by kernel_rfl
theorem kt123 : kindsT 123 = 128 := by kernel_rfl
theorem kt125 : kindsT 125 = 128 := by kernel_rfl
theorem kt44 : kindsT 44 = 128 := by kernel_rfl
theorem kt59 : kindsT 59 = 128 := by kernel_rfl
theorem kt46 : kindsT 46 = 256 := by kernel_rfl
theorem kt39 : kindsT 39 = 528 := by kernel_rfl
theorem kt34 : kindsT 34 = 1024 := by kernel_rfl
theorem int_ne {n v : Nat} (h : ¬ n = v) : ((n : Int) == (v : Int)) = false := by simp; omega
theorem kinds_call {n k : Nat} {w : World} (e : kindsT n = k) (h : Calls Tryz.prog 95 #[.int .u8 (n : Int)] w fun e w' => e = .returned (.int .u16 (k : Int)) ∧ w' = w) : Calls Tryz.prog 95 #[.int .u8 (n : Int)] w fun e w' => e = .returned (.int .u16 (kindsT n : Nat)) ∧ w' = w := by rw [e]; exact h

set_option maxRecDepth 100000 in
set_option maxHeartbeats 8000000 in
theorem kindsOf_none (n : Nat) (h : ∀ v ∈ [9, 10, 12, 13, 32, 48, 49, 50, 51, 52, 53, 54, 55, 56, 57, 65, 66, 67, 68, 69, 70, 97, 98, 99, 100, 101, 102, 71, 72, 73, 74, 75, 76, 77, 78, 79, 80, 81, 82, 83, 84, 85, 86, 87, 88, 89, 90, 103, 104, 105, 106, 107, 108, 109, 110, 111, 112, 113, 114, 115, 116, 117, 118, 119, 120, 121, 122, 33, 37, 38, 36, 35, 43, 45, 47, 58, 60, 61, 62, 63, 64, 92, 126, 96, 94, 124, 42, 40, 95, 41, 91, 93, 123, 125, 44, 59, 46, 39, 34], ((n : Int) == ((v : Nat) : Int)) = false) (w : World) : Calls Tryz.prog 95 #[.int .u8 (n : Int)] w fun e w' => e = .returned (.int .u16 0) ∧ w' = w := by
  have g9 : ((n : Int) == 9) = false := h 9 (by decide)
  have g10 : ((n : Int) == 10) = false := h 10 (by decide)
  have g12 : ((n : Int) == 12) = false := h 12 (by decide)
  have g13 : ((n : Int) == 13) = false := h 13 (by decide)
  have g32 : ((n : Int) == 32) = false := h 32 (by decide)
  have g48 : ((n : Int) == 48) = false := h 48 (by decide)
  have g49 : ((n : Int) == 49) = false := h 49 (by decide)
  have g50 : ((n : Int) == 50) = false := h 50 (by decide)
  have g51 : ((n : Int) == 51) = false := h 51 (by decide)
  have g52 : ((n : Int) == 52) = false := h 52 (by decide)
  have g53 : ((n : Int) == 53) = false := h 53 (by decide)
  have g54 : ((n : Int) == 54) = false := h 54 (by decide)
  have g55 : ((n : Int) == 55) = false := h 55 (by decide)
  have g56 : ((n : Int) == 56) = false := h 56 (by decide)
  have g57 : ((n : Int) == 57) = false := h 57 (by decide)
  have g65 : ((n : Int) == 65) = false := h 65 (by decide)
  have g66 : ((n : Int) == 66) = false := h 66 (by decide)
  have g67 : ((n : Int) == 67) = false := h 67 (by decide)
  have g68 : ((n : Int) == 68) = false := h 68 (by decide)
  have g69 : ((n : Int) == 69) = false := h 69 (by decide)
  have g70 : ((n : Int) == 70) = false := h 70 (by decide)
  have g97 : ((n : Int) == 97) = false := h 97 (by decide)
  have g98 : ((n : Int) == 98) = false := h 98 (by decide)
  have g99 : ((n : Int) == 99) = false := h 99 (by decide)
  have g100 : ((n : Int) == 100) = false := h 100 (by decide)
  have g101 : ((n : Int) == 101) = false := h 101 (by decide)
  have g102 : ((n : Int) == 102) = false := h 102 (by decide)
  have g71 : ((n : Int) == 71) = false := h 71 (by decide)
  have g72 : ((n : Int) == 72) = false := h 72 (by decide)
  have g73 : ((n : Int) == 73) = false := h 73 (by decide)
  have g74 : ((n : Int) == 74) = false := h 74 (by decide)
  have g75 : ((n : Int) == 75) = false := h 75 (by decide)
  have g76 : ((n : Int) == 76) = false := h 76 (by decide)
  have g77 : ((n : Int) == 77) = false := h 77 (by decide)
  have g78 : ((n : Int) == 78) = false := h 78 (by decide)
  have g79 : ((n : Int) == 79) = false := h 79 (by decide)
  have g80 : ((n : Int) == 80) = false := h 80 (by decide)
  have g81 : ((n : Int) == 81) = false := h 81 (by decide)
  have g82 : ((n : Int) == 82) = false := h 82 (by decide)
  have g83 : ((n : Int) == 83) = false := h 83 (by decide)
  have g84 : ((n : Int) == 84) = false := h 84 (by decide)
  have g85 : ((n : Int) == 85) = false := h 85 (by decide)
  have g86 : ((n : Int) == 86) = false := h 86 (by decide)
  have g87 : ((n : Int) == 87) = false := h 87 (by decide)
  have g88 : ((n : Int) == 88) = false := h 88 (by decide)
  have g89 : ((n : Int) == 89) = false := h 89 (by decide)
  have g90 : ((n : Int) == 90) = false := h 90 (by decide)
  have g103 : ((n : Int) == 103) = false := h 103 (by decide)
  have g104 : ((n : Int) == 104) = false := h 104 (by decide)
  have g105 : ((n : Int) == 105) = false := h 105 (by decide)
  have g106 : ((n : Int) == 106) = false := h 106 (by decide)
  have g107 : ((n : Int) == 107) = false := h 107 (by decide)
  have g108 : ((n : Int) == 108) = false := h 108 (by decide)
  have g109 : ((n : Int) == 109) = false := h 109 (by decide)
  have g110 : ((n : Int) == 110) = false := h 110 (by decide)
  have g111 : ((n : Int) == 111) = false := h 111 (by decide)
  have g112 : ((n : Int) == 112) = false := h 112 (by decide)
  have g113 : ((n : Int) == 113) = false := h 113 (by decide)
  have g114 : ((n : Int) == 114) = false := h 114 (by decide)
  have g115 : ((n : Int) == 115) = false := h 115 (by decide)
  have g116 : ((n : Int) == 116) = false := h 116 (by decide)
  have g117 : ((n : Int) == 117) = false := h 117 (by decide)
  have g118 : ((n : Int) == 118) = false := h 118 (by decide)
  have g119 : ((n : Int) == 119) = false := h 119 (by decide)
  have g120 : ((n : Int) == 120) = false := h 120 (by decide)
  have g121 : ((n : Int) == 121) = false := h 121 (by decide)
  have g122 : ((n : Int) == 122) = false := h 122 (by decide)
  have g33 : ((n : Int) == 33) = false := h 33 (by decide)
  have g37 : ((n : Int) == 37) = false := h 37 (by decide)
  have g38 : ((n : Int) == 38) = false := h 38 (by decide)
  have g36 : ((n : Int) == 36) = false := h 36 (by decide)
  have g35 : ((n : Int) == 35) = false := h 35 (by decide)
  have g43 : ((n : Int) == 43) = false := h 43 (by decide)
  have g45 : ((n : Int) == 45) = false := h 45 (by decide)
  have g47 : ((n : Int) == 47) = false := h 47 (by decide)
  have g58 : ((n : Int) == 58) = false := h 58 (by decide)
  have g60 : ((n : Int) == 60) = false := h 60 (by decide)
  have g61 : ((n : Int) == 61) = false := h 61 (by decide)
  have g62 : ((n : Int) == 62) = false := h 62 (by decide)
  have g63 : ((n : Int) == 63) = false := h 63 (by decide)
  have g64 : ((n : Int) == 64) = false := h 64 (by decide)
  have g92 : ((n : Int) == 92) = false := h 92 (by decide)
  have g126 : ((n : Int) == 126) = false := h 126 (by decide)
  have g96 : ((n : Int) == 96) = false := h 96 (by decide)
  have g94 : ((n : Int) == 94) = false := h 94 (by decide)
  have g124 : ((n : Int) == 124) = false := h 124 (by decide)
  have g42 : ((n : Int) == 42) = false := h 42 (by decide)
  have g40 : ((n : Int) == 40) = false := h 40 (by decide)
  have g95 : ((n : Int) == 95) = false := h 95 (by decide)
  have g41 : ((n : Int) == 41) = false := h 41 (by decide)
  have g91 : ((n : Int) == 91) = false := h 91 (by decide)
  have g93 : ((n : Int) == 93) = false := h 93 (by decide)
  have g123 : ((n : Int) == 123) = false := h 123 (by decide)
  have g125 : ((n : Int) == 125) = false := h 125 (by decide)
  have g44 : ((n : Int) == 44) = false := h 44 (by decide)
  have g59 : ((n : Int) == 59) = false := h 59 (by decide)
  have g46 : ((n : Int) == 46) = false := h 46 (by decide)
  have g39 : ((n : Int) == 39) = false := h 39 (by decide)
  have g34 : ((n : Int) == 34) = false := h 34 (by decide)
  clear h
  go_enter Tryz.func95, Tryz.ntmps95
  go_wp2
  go_ret
  exact ⟨rfl, rfl⟩

theorem kindsOf_n (n : Nat) (hn : n < 256) (w : World) : Calls Tryz.prog 95 #[.int .u8 (n : Int)] w fun e w' => e = .returned (.int .u16 (kindsT n : Nat)) ∧ w' = w := by
  by_cases hm : n ∈ [9, 10, 12, 13, 32, 48, 49, 50, 51, 52, 53, 54, 55, 56, 57, 65, 66, 67, 68, 69, 70, 97, 98, 99, 100, 101, 102, 71, 72, 73, 74, 75, 76, 77, 78, 79, 80, 81, 82, 83, 84, 85, 86, 87, 88, 89, 90, 103, 104, 105, 106, 107, 108, 109, 110, 111, 112, 113, 114, 115, 116, 117, 118, 119, 120, 121, 122, 33, 37, 38, 36, 35, 43, 45, 47, 58, 60, 61, 62, 63, 64, 92, 126, 96, 94, 124, 42, 40, 95, 41, 91, 93, 123, 125, 44, 59, 46, 39, 34]
  · simp only [List.mem_cons, List.not_mem_nil, or_false] at hm
    rcases hm with rfl | rfl | rfl | rfl | rfl | rfl | rfl | rfl | rfl | rfl | rfl | rfl | rfl | rfl | rfl | rfl | rfl | rfl | rfl | rfl | rfl | rfl | rfl | rfl | rfl | rfl | rfl | rfl | rfl | rfl | rfl | rfl | rfl | rfl | rfl | rfl | rfl | rfl | rfl | rfl | rfl | rfl | rfl | rfl | rfl | rfl | rfl | rfl | rfl | rfl | rfl | rfl | rfl | rfl | rfl | rfl | rfl | rfl | rfl | rfl | rfl | rfl | rfl | rfl | rfl | rfl | rfl | rfl | rfl | rfl | rfl | rfl | rfl | rfl | rfl | rfl | rfl | rfl | rfl | rfl | rfl | rfl | rfl | rfl | rfl | rfl | rfl | rfl | rfl | rfl | rfl | rfl | rfl | rfl | rfl | rfl | rfl | rfl | rfl
    · exact kinds_call kt9 (kindsOf_9 w)
    · exact kinds_call kt10 (kindsOf_10 w)
    · exact kinds_call kt12 (kindsOf_12 w)
    · exact kinds_call kt13 (kindsOf_13 w)
    · exact kinds_call kt32 (kindsOf_32 w)
    · exact kinds_call kt48 (kindsOf_48 w)
    · exact kinds_call kt49 (kindsOf_49 w)
    · exact kinds_call kt50 (kindsOf_50 w)
    · exact kinds_call kt51 (kindsOf_51 w)
    · exact kinds_call kt52 (kindsOf_52 w)
    · exact kinds_call kt53 (kindsOf_53 w)
    · exact kinds_call kt54 (kindsOf_54 w)
    · exact kinds_call kt55 (kindsOf_55 w)
    · exact kinds_call kt56 (kindsOf_56 w)
    · exact kinds_call kt57 (kindsOf_57 w)
    · exact kinds_call kt65 (kindsOf_65 w)
    · exact kinds_call kt66 (kindsOf_66 w)
    · exact kinds_call kt67 (kindsOf_67 w)
    · exact kinds_call kt68 (kindsOf_68 w)
    · exact kinds_call kt69 (kindsOf_69 w)
    · exact kinds_call kt70 (kindsOf_70 w)
    · exact kinds_call kt97 (kindsOf_97 w)
    · exact kinds_call kt98 (kindsOf_98 w)
    · exact kinds_call kt99 (kindsOf_99 w)
    · exact kinds_call kt100 (kindsOf_100 w)
    · exact kinds_call kt101 (kindsOf_101 w)
    · exact kinds_call kt102 (kindsOf_102 w)
    · exact kinds_call kt71 (kindsOf_71 w)
    · exact kinds_call kt72 (kindsOf_72 w)
    · exact kinds_call kt73 (kindsOf_73 w)
    · exact kinds_call kt74 (kindsOf_74 w)
    · exact kinds_call kt75 (kindsOf_75 w)
    · exact kinds_call kt76 (kindsOf_76 w)
    · exact kinds_call kt77 (kindsOf_77 w)
    · exact kinds_call kt78 (kindsOf_78 w)
    · exact kinds_call kt79 (kindsOf_79 w)
    · exact kinds_call kt80 (kindsOf_80 w)
    · exact kinds_call kt81 (kindsOf_81 w)
    · exact kinds_call kt82 (kindsOf_82 w)
    · exact kinds_call kt83 (kindsOf_83 w)
    · exact kinds_call kt84 (kindsOf_84 w)
    · exact kinds_call kt85 (kindsOf_85 w)
    · exact kinds_call kt86 (kindsOf_86 w)
    · exact kinds_call kt87 (kindsOf_87 w)
    · exact kinds_call kt88 (kindsOf_88 w)
    · exact kinds_call kt89 (kindsOf_89 w)
    · exact kinds_call kt90 (kindsOf_90 w)
    · exact kinds_call kt103 (kindsOf_103 w)
    · exact kinds_call kt104 (kindsOf_104 w)
    · exact kinds_call kt105 (kindsOf_105 w)
    · exact kinds_call kt106 (kindsOf_106 w)
    · exact kinds_call kt107 (kindsOf_107 w)
    · exact kinds_call kt108 (kindsOf_108 w)
    · exact kinds_call kt109 (kindsOf_109 w)
    · exact kinds_call kt110 (kindsOf_110 w)
    · exact kinds_call kt111 (kindsOf_111 w)
    · exact kinds_call kt112 (kindsOf_112 w)
    · exact kinds_call kt113 (kindsOf_113 w)
    · exact kinds_call kt114 (kindsOf_114 w)
    · exact kinds_call kt115 (kindsOf_115 w)
    · exact kinds_call kt116 (kindsOf_116 w)
    · exact kinds_call kt117 (kindsOf_117 w)
    · exact kinds_call kt118 (kindsOf_118 w)
    · exact kinds_call kt119 (kindsOf_119 w)
    · exact kinds_call kt120 (kindsOf_120 w)
    · exact kinds_call kt121 (kindsOf_121 w)
    · exact kinds_call kt122 (kindsOf_122 w)
    · exact kinds_call kt33 (kindsOf_33 w)
    · exact kinds_call kt37 (kindsOf_37 w)
    · exact kinds_call kt38 (kindsOf_38 w)
    · exact kinds_call kt36 (kindsOf_36 w)
    · exact kinds_call kt35 (kindsOf_35 w)
    · exact kinds_call kt43 (kindsOf_43 w)
    · exact kinds_call kt45 (kindsOf_45 w)
    · exact kinds_call kt47 (kindsOf_47 w)
    · exact kinds_call kt58 (kindsOf_58 w)
    · exact kinds_call kt60 (kindsOf_60 w)
    · exact kinds_call kt61 (kindsOf_61 w)
    · exact kinds_call kt62 (kindsOf_62 w)
    · exact kinds_call kt63 (kindsOf_63 w)
    · exact kinds_call kt64 (kindsOf_64 w)
    · exact kinds_call kt92 (kindsOf_92 w)
    · exact kinds_call kt126 (kindsOf_126 w)
    · exact kinds_call kt96 (kindsOf_96 w)
    · exact kinds_call kt94 (kindsOf_94 w)
    · exact kinds_call kt124 (kindsOf_124 w)
    · exact kinds_call kt42 (kindsOf_42 w)
    · exact kinds_call kt40 (kindsOf_40 w)
    · exact kinds_call kt95 (kindsOf_95 w)
    · exact kinds_call kt41 (kindsOf_41 w)
    · exact kinds_call kt91 (kindsOf_91 w)
    · exact kinds_call kt93 (kindsOf_93 w)
    · exact kinds_call kt123 (kindsOf_123 w)
    · exact kinds_call kt125 (kindsOf_125 w)
    · exact kinds_call kt44 (kindsOf_44 w)
    · exact kinds_call kt59 (kindsOf_59 w)
    · exact kinds_call kt46 (kindsOf_46 w)
    · exact kinds_call kt39 (kindsOf_39 w)
    · exact kinds_call kt34 (kindsOf_34 w)
  · have h0 : kindsT n = 0 := (kindsT_all ⟨n, hn⟩).resolve_right hm
    exact kinds_call h0 (kindsOf_none n (fun v hv => int_ne (fun e => hm (e ▸ hv))) w)
theorem kindsOf_any (c : UInt8) (w : World) : Calls Tryz.prog 95 #[.int .u8 (c.toNat : Int)] w fun e w' => e = .returned (.int .u16 (kindsN c : Nat)) ∧ w' = w := by
  have h := kindsOf_n c.toNat c.toNat_lt w
  have e : kindsT c.toNat = kindsN c := by unfold kindsT; rw [UInt8.ofNat_toNat]
  rw [e] at h
  exact h
end Go.Proofs.YtbcmpacmoofdkaaGreatDoor
