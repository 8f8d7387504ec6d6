/- the id of the chapter's example: two digests, word by word (mkcsb.py) -/
import Derived.Test.YtkfijllghbopkaaGreatDoorDgy
namespace Go.Proofs.YtkfijllghbopkaaGreatDoor.Dg
def b55L : List (BitVec 8) := [1#8, 0#8, 0#8, 0#8, 0#8, 0#8, 0#8, 0#8, 0#8, 0#8, 0#8, 0#8, 0#8, 0#8, 0#8, 0#8, 0#8, 0#8, 0#8, 0#8, 0#8, 0#8, 0#8, 0#8, 0#8, 0#8, 0#8, 0#8, 0#8, 0#8, 0#8, 0#8, 0#8, 0#8, 0#8, 0#8, 0#8, 1#8, 7#8, 0#8, 0#8, 0#8, 0#8, 0#8, 0#8, 0#8, 0#8, 0#8, 0#8, 0#8, 0#8, 0#8, 0#8, 0#8, 0#8]
theorem b55_pad : pad b55L = [1#8, 0#8, 0#8, 0#8, 0#8, 0#8, 0#8, 0#8, 0#8, 0#8, 0#8, 0#8, 0#8, 0#8, 0#8, 0#8, 0#8, 0#8, 0#8, 0#8, 0#8, 0#8, 0#8, 0#8, 0#8, 0#8, 0#8, 0#8, 0#8, 0#8, 0#8, 0#8, 0#8, 0#8, 0#8, 0#8, 0#8, 1#8, 7#8, 0#8, 0#8, 0#8, 0#8, 0#8, 0#8, 0#8, 0#8, 0#8, 0#8, 0#8, 0#8, 0#8, 0#8, 0#8, 0#8, 128#8, 0#8, 0#8, 0#8, 0#8, 0#8, 0#8, 1#8, 184#8] := by decide +kernel
def b55M : Nat → BitVec 32 := blk [1#8, 0#8, 0#8, 0#8, 0#8, 0#8, 0#8, 0#8, 0#8, 0#8, 0#8, 0#8, 0#8, 0#8, 0#8, 0#8, 0#8, 0#8, 0#8, 0#8, 0#8, 0#8, 0#8, 0#8, 0#8, 0#8, 0#8, 0#8, 0#8, 0#8, 0#8, 0#8, 0#8, 0#8, 0#8, 0#8, 0#8, 1#8, 7#8, 0#8, 0#8, 0#8, 0#8, 0#8, 0#8, 0#8, 0#8, 0#8, 0#8, 0#8, 0#8, 0#8, 0#8, 0#8, 0#8, 128#8, 0#8, 0#8, 0#8, 0#8, 0#8, 0#8, 1#8, 184#8] 0
theorem b55_w0 : sch b55M 0 = 16777216#32 := by rw [sch_lo _ (by omega)]; decide +kernel
theorem b55_w1 : sch b55M 1 = 0#32 := by rw [sch_lo _ (by omega)]; decide +kernel
theorem b55_w2 : sch b55M 2 = 0#32 := by rw [sch_lo _ (by omega)]; decide +kernel
theorem b55_w3 : sch b55M 3 = 0#32 := by rw [sch_lo _ (by omega)]; decide +kernel
theorem b55_w4 : sch b55M 4 = 0#32 := by rw [sch_lo _ (by omega)]; decide +kernel
theorem b55_w5 : sch b55M 5 = 0#32 := by rw [sch_lo _ (by omega)]; decide +kernel
theorem b55_w6 : sch b55M 6 = 0#32 := by rw [sch_lo _ (by omega)]; decide +kernel
theorem b55_w7 : sch b55M 7 = 0#32 := by rw [sch_lo _ (by omega)]; decide +kernel
theorem b55_w8 : sch b55M 8 = 0#32 := by rw [sch_lo _ (by omega)]; decide +kernel
theorem b55_w9 : sch b55M 9 = 67328#32 := by rw [sch_lo _ (by omega)]; decide +kernel
theorem b55_w10 : sch b55M 10 = 0#32 := by rw [sch_lo _ (by omega)]; decide +kernel
theorem b55_w11 : sch b55M 11 = 0#32 := by rw [sch_lo _ (by omega)]; decide +kernel
theorem b55_w12 : sch b55M 12 = 0#32 := by rw [sch_lo _ (by omega)]; decide +kernel
theorem b55_w13 : sch b55M 13 = 128#32 := by rw [sch_lo _ (by omega)]; decide +kernel
theorem b55_w14 : sch b55M 14 = 0#32 := by rw [sch_lo _ (by omega)]; decide +kernel
theorem b55_w15 : sch b55M 15 = 440#32 := by rw [sch_lo _ (by omega)]; decide +kernel
theorem b55_w16 : sch b55M 16 = 16844544#32 := by rw [sch_hi _ (by omega), show 16 - 2 = 14 from rfl, show 16 - 7 = 9 from rfl, show 16 - 15 = 1 from rfl, show 16 - 16 = 0 from rfl, b55_w14, b55_w9, b55_w1, b55_w0]; decide +kernel
theorem b55_w17 : sch b55M 17 = 15400960#32 := by rw [sch_hi _ (by omega), show 17 - 2 = 15 from rfl, show 17 - 7 = 10 from rfl, show 17 - 15 = 2 from rfl, show 17 - 16 = 1 from rfl, b55_w15, b55_w10, b55_w2, b55_w1]; decide +kernel
theorem b55_w18 : sch b55M 18 = 2740994273#32 := by rw [sch_hi _ (by omega), show 18 - 2 = 16 from rfl, show 18 - 7 = 11 from rfl, show 18 - 15 = 3 from rfl, show 18 - 16 = 2 from rfl, b55_w16, b55_w11, b55_w3, b55_w2]; decide +kernel
theorem b55_w19 : sch b55M 19 = 3758111400#32 := by rw [sch_hi _ (by omega), show 19 - 2 = 17 from rfl, show 19 - 7 = 12 from rfl, show 19 - 15 = 4 from rfl, show 19 - 16 = 3 from rfl, b55_w17, b55_w12, b55_w4, b55_w3]; decide +kernel
theorem b55_w20 : sch b55M 20 = 675561036#32 := by rw [sch_hi _ (by omega), show 20 - 2 = 18 from rfl, show 20 - 7 = 13 from rfl, show 20 - 15 = 5 from rfl, show 20 - 16 = 4 from rfl, b55_w18, b55_w13, b55_w5, b55_w4]; decide +kernel
theorem b55_w21 : sch b55M 21 = 439970830#32 := by rw [sch_hi _ (by omega), show 21 - 2 = 19 from rfl, show 21 - 7 = 14 from rfl, show 21 - 15 = 6 from rfl, show 21 - 16 = 5 from rfl, b55_w19, b55_w14, b55_w6, b55_w5]; decide +kernel
theorem b55_w22 : sch b55M 22 = 2565177821#32 := by rw [sch_hi _ (by omega), show 22 - 2 = 20 from rfl, show 22 - 7 = 15 from rfl, show 22 - 15 = 7 from rfl, show 22 - 16 = 6 from rfl, b55_w20, b55_w15, b55_w7, b55_w6]; decide +kernel
theorem b55_w23 : sch b55M 23 = 2625718016#32 := by rw [sch_hi _ (by omega), show 23 - 2 = 21 from rfl, show 23 - 7 = 16 from rfl, show 23 - 15 = 8 from rfl, show 23 - 16 = 7 from rfl, b55_w21, b55_w16, b55_w8, b55_w7]; decide +kernel
theorem b55_w24 : sch b55M 24 = 3013503228#32 := by rw [sch_hi _ (by omega), show 24 - 2 = 22 from rfl, show 24 - 7 = 17 from rfl, show 24 - 15 = 9 from rfl, show 24 - 16 = 8 from rfl, b55_w22, b55_w17, b55_w9, b55_w8]; decide +kernel
theorem b55_w25 : sch b55M 25 = 782812514#32 := by rw [sch_hi _ (by omega), show 25 - 2 = 23 from rfl, show 25 - 7 = 18 from rfl, show 25 - 15 = 10 from rfl, show 25 - 16 = 9 from rfl, b55_w23, b55_w18, b55_w10, b55_w9]; decide +kernel
theorem b55_w26 : sch b55M 26 = 3645727438#32 := by rw [sch_hi _ (by omega), show 26 - 2 = 24 from rfl, show 26 - 7 = 19 from rfl, show 26 - 15 = 11 from rfl, show 26 - 16 = 10 from rfl, b55_w24, b55_w19, b55_w11, b55_w10]; decide +kernel
theorem b55_w27 : sch b55M 27 = 2723886844#32 := by rw [sch_hi _ (by omega), show 27 - 2 = 25 from rfl, show 27 - 7 = 20 from rfl, show 27 - 15 = 12 from rfl, show 27 - 16 = 11 from rfl, b55_w25, b55_w20, b55_w12, b55_w11]; decide +kernel
theorem b55_w28 : sch b55M 28 = 929190134#32 := by rw [sch_hi _ (by omega), show 28 - 2 = 26 from rfl, show 28 - 7 = 21 from rfl, show 28 - 15 = 13 from rfl, show 28 - 16 = 12 from rfl, b55_w26, b55_w21, b55_w13, b55_w12]; decide +kernel
theorem b55_w29 : sch b55M 29 = 2523846152#32 := by rw [sch_hi _ (by omega), show 29 - 2 = 27 from rfl, show 29 - 7 = 22 from rfl, show 29 - 15 = 14 from rfl, show 29 - 16 = 13 from rfl, b55_w27, b55_w22, b55_w14, b55_w13]; decide +kernel
theorem b55_w30 : sch b55M 30 = 1867992317#32 := by rw [sch_hi _ (by omega), show 30 - 2 = 28 from rfl, show 30 - 7 = 23 from rfl, show 30 - 15 = 15 from rfl, show 30 - 16 = 14 from rfl, b55_w28, b55_w23, b55_w15, b55_w14]; decide +kernel
theorem b55_w31 : sch b55M 31 = 2808172465#32 := by rw [sch_hi _ (by omega), show 31 - 2 = 29 from rfl, show 31 - 7 = 24 from rfl, show 31 - 15 = 16 from rfl, show 31 - 16 = 15 from rfl, b55_w29, b55_w24, b55_w16, b55_w15]; decide +kernel
theorem b55_w32 : sch b55M 32 = 1069634094#32 := by rw [sch_hi _ (by omega), show 32 - 2 = 30 from rfl, show 32 - 7 = 25 from rfl, show 32 - 15 = 17 from rfl, show 32 - 16 = 16 from rfl, b55_w30, b55_w25, b55_w17, b55_w16]; decide +kernel
theorem b55_w33 : sch b55M 33 = 793920034#32 := by rw [sch_hi _ (by omega), show 33 - 2 = 31 from rfl, show 33 - 7 = 26 from rfl, show 33 - 15 = 18 from rfl, show 33 - 16 = 17 from rfl, b55_w31, b55_w26, b55_w18, b55_w17]; decide +kernel
theorem b55_w34 : sch b55M 34 = 209903433#32 := by rw [sch_hi _ (by omega), show 34 - 2 = 32 from rfl, show 34 - 7 = 27 from rfl, show 34 - 15 = 19 from rfl, show 34 - 16 = 18 from rfl, b55_w32, b55_w27, b55_w19, b55_w18]; decide +kernel
theorem b55_w35 : sch b55M 35 = 327948309#32 := by rw [sch_hi _ (by omega), show 35 - 2 = 33 from rfl, show 35 - 7 = 28 from rfl, show 35 - 15 = 20 from rfl, show 35 - 16 = 19 from rfl, b55_w33, b55_w28, b55_w20, b55_w19]; decide +kernel
theorem b55_w36 : sch b55M 36 = 930248081#32 := by rw [sch_hi _ (by omega), show 36 - 2 = 34 from rfl, show 36 - 7 = 29 from rfl, show 36 - 15 = 21 from rfl, show 36 - 16 = 20 from rfl, b55_w34, b55_w29, b55_w21, b55_w20]; decide +kernel
theorem b55_w37 : sch b55M 37 = 3774324413#32 := by rw [sch_hi _ (by omega), show 37 - 2 = 35 from rfl, show 37 - 7 = 30 from rfl, show 37 - 15 = 22 from rfl, show 37 - 16 = 21 from rfl, b55_w35, b55_w30, b55_w22, b55_w21]; decide +kernel
theorem b55_w38 : sch b55M 38 = 4163322022#32 := by rw [sch_hi _ (by omega), show 38 - 2 = 36 from rfl, show 38 - 7 = 31 from rfl, show 38 - 15 = 23 from rfl, show 38 - 16 = 22 from rfl, b55_w36, b55_w31, b55_w23, b55_w22]; decide +kernel
theorem b55_w39 : sch b55M 39 = 2384455641#32 := by rw [sch_hi _ (by omega), show 39 - 2 = 37 from rfl, show 39 - 7 = 32 from rfl, show 39 - 15 = 24 from rfl, show 39 - 16 = 23 from rfl, b55_w37, b55_w32, b55_w24, b55_w23]; decide +kernel
theorem b55_w40 : sch b55M 40 = 473634929#32 := by rw [sch_hi _ (by omega), show 40 - 2 = 38 from rfl, show 40 - 7 = 33 from rfl, show 40 - 15 = 25 from rfl, show 40 - 16 = 24 from rfl, b55_w38, b55_w33, b55_w25, b55_w24]; decide +kernel
theorem b55_w41 : sch b55M 41 = 680040111#32 := by rw [sch_hi _ (by omega), show 41 - 2 = 39 from rfl, show 41 - 7 = 34 from rfl, show 41 - 15 = 26 from rfl, show 41 - 16 = 25 from rfl, b55_w39, b55_w34, b55_w26, b55_w25]; decide +kernel
theorem b55_w42 : sch b55M 42 = 4240184931#32 := by rw [sch_hi _ (by omega), show 42 - 2 = 40 from rfl, show 42 - 7 = 35 from rfl, show 42 - 15 = 27 from rfl, show 42 - 16 = 26 from rfl, b55_w40, b55_w35, b55_w27, b55_w26]; decide +kernel
theorem b55_w43 : sch b55M 43 = 2987721572#32 := by rw [sch_hi _ (by omega), show 43 - 2 = 41 from rfl, show 43 - 7 = 36 from rfl, show 43 - 15 = 28 from rfl, show 43 - 16 = 27 from rfl, b55_w41, b55_w36, b55_w28, b55_w27]; decide +kernel
theorem b55_w44 : sch b55M 44 = 1484767605#32 := by rw [sch_hi _ (by omega), show 44 - 2 = 42 from rfl, show 44 - 7 = 37 from rfl, show 44 - 15 = 29 from rfl, show 44 - 16 = 28 from rfl, b55_w42, b55_w37, b55_w29, b55_w28]; decide +kernel
theorem b55_w45 : sch b55M 45 = 3566435721#32 := by rw [sch_hi _ (by omega), show 45 - 2 = 43 from rfl, show 45 - 7 = 38 from rfl, show 45 - 15 = 30 from rfl, show 45 - 16 = 29 from rfl, b55_w43, b55_w38, b55_w30, b55_w29]; decide +kernel
theorem b55_w46 : sch b55M 46 = 977784903#32 := by rw [sch_hi _ (by omega), show 46 - 2 = 44 from rfl, show 46 - 7 = 39 from rfl, show 46 - 15 = 31 from rfl, show 46 - 16 = 30 from rfl, b55_w44, b55_w39, b55_w31, b55_w30]; decide +kernel
theorem b55_w47 : sch b55M 47 = 2749989687#32 := by rw [sch_hi _ (by omega), show 47 - 2 = 45 from rfl, show 47 - 7 = 40 from rfl, show 47 - 15 = 32 from rfl, show 47 - 16 = 31 from rfl, b55_w45, b55_w40, b55_w32, b55_w31]; decide +kernel
theorem b55_w48 : sch b55M 48 = 1269578640#32 := by rw [sch_hi _ (by omega), show 48 - 2 = 46 from rfl, show 48 - 7 = 41 from rfl, show 48 - 15 = 33 from rfl, show 48 - 16 = 32 from rfl, b55_w46, b55_w41, b55_w33, b55_w32]; decide +kernel
theorem b55_w49 : sch b55M 49 = 1111447013#32 := by rw [sch_hi _ (by omega), show 49 - 2 = 47 from rfl, show 49 - 7 = 42 from rfl, show 49 - 15 = 34 from rfl, show 49 - 16 = 33 from rfl, b55_w47, b55_w42, b55_w34, b55_w33]; decide +kernel
theorem b55_w50 : sch b55M 50 = 2274658859#32 := by rw [sch_hi _ (by omega), show 50 - 2 = 48 from rfl, show 50 - 7 = 43 from rfl, show 50 - 15 = 35 from rfl, show 50 - 16 = 34 from rfl, b55_w48, b55_w43, b55_w35, b55_w34]; decide +kernel
theorem b55_w51 : sch b55M 51 = 1716471708#32 := by rw [sch_hi _ (by omega), show 51 - 2 = 49 from rfl, show 51 - 7 = 44 from rfl, show 51 - 15 = 36 from rfl, show 51 - 16 = 35 from rfl, b55_w49, b55_w44, b55_w36, b55_w35]; decide +kernel
theorem b55_w52 : sch b55M 52 = 1625796107#32 := by rw [sch_hi _ (by omega), show 52 - 2 = 50 from rfl, show 52 - 7 = 45 from rfl, show 52 - 15 = 37 from rfl, show 52 - 16 = 36 from rfl, b55_w50, b55_w45, b55_w37, b55_w36]; decide +kernel
theorem b55_w53 : sch b55M 53 = 3913331679#32 := by rw [sch_hi _ (by omega), show 53 - 2 = 51 from rfl, show 53 - 7 = 46 from rfl, show 53 - 15 = 38 from rfl, show 53 - 16 = 37 from rfl, b55_w51, b55_w46, b55_w38, b55_w37]; decide +kernel
theorem b55_w54 : sch b55M 54 = 437733908#32 := by rw [sch_hi _ (by omega), show 54 - 2 = 52 from rfl, show 54 - 7 = 47 from rfl, show 54 - 15 = 39 from rfl, show 54 - 16 = 38 from rfl, b55_w52, b55_w47, b55_w39, b55_w38]; decide +kernel
theorem b55_w55 : sch b55M 55 = 1360908093#32 := by rw [sch_hi _ (by omega), show 55 - 2 = 53 from rfl, show 55 - 7 = 48 from rfl, show 55 - 15 = 40 from rfl, show 55 - 16 = 39 from rfl, b55_w53, b55_w48, b55_w40, b55_w39]; decide +kernel
theorem b55_w56 : sch b55M 56 = 699679691#32 := by rw [sch_hi _ (by omega), show 56 - 2 = 54 from rfl, show 56 - 7 = 49 from rfl, show 56 - 15 = 41 from rfl, show 56 - 16 = 40 from rfl, b55_w54, b55_w49, b55_w41, b55_w40]; decide +kernel
theorem b55_w57 : sch b55M 57 = 3967839367#32 := by rw [sch_hi _ (by omega), show 57 - 2 = 55 from rfl, show 57 - 7 = 50 from rfl, show 57 - 15 = 42 from rfl, show 57 - 16 = 41 from rfl, b55_w55, b55_w50, b55_w42, b55_w41]; decide +kernel
theorem b55_w58 : sch b55M 58 = 2896273898#32 := by rw [sch_hi _ (by omega), show 58 - 2 = 56 from rfl, show 58 - 7 = 51 from rfl, show 58 - 15 = 43 from rfl, show 58 - 16 = 42 from rfl, b55_w56, b55_w51, b55_w43, b55_w42]; decide +kernel
theorem b55_w59 : sch b55M 59 = 1623666413#32 := by rw [sch_hi _ (by omega), show 59 - 2 = 57 from rfl, show 59 - 7 = 52 from rfl, show 59 - 15 = 44 from rfl, show 59 - 16 = 43 from rfl, b55_w57, b55_w52, b55_w44, b55_w43]; decide +kernel
theorem b55_w60 : sch b55M 60 = 4244430190#32 := by rw [sch_hi _ (by omega), show 60 - 2 = 58 from rfl, show 60 - 7 = 53 from rfl, show 60 - 15 = 45 from rfl, show 60 - 16 = 44 from rfl, b55_w58, b55_w53, b55_w45, b55_w44]; decide +kernel
theorem b55_w61 : sch b55M 61 = 3733696646#32 := by rw [sch_hi _ (by omega), show 61 - 2 = 59 from rfl, show 61 - 7 = 54 from rfl, show 61 - 15 = 46 from rfl, show 61 - 16 = 45 from rfl, b55_w59, b55_w54, b55_w46, b55_w45]; decide +kernel
theorem b55_w62 : sch b55M 62 = 2625784308#32 := by rw [sch_hi _ (by omega), show 62 - 2 = 60 from rfl, show 62 - 7 = 55 from rfl, show 62 - 15 = 47 from rfl, show 62 - 16 = 46 from rfl, b55_w60, b55_w55, b55_w47, b55_w46]; decide +kernel
theorem b55_w63 : sch b55M 63 = 2735254376#32 := by rw [sch_hi _ (by omega), show 63 - 2 = 61 from rfl, show 63 - 7 = 56 from rfl, show 63 - 15 = 48 from rfl, show 63 - 16 = 47 from rfl, b55_w61, b55_w56, b55_w48, b55_w47]; decide +kernel
def b55V : V8 := ⟨1779033703#32, 3144134277#32, 1013904242#32, 2773480762#32, 1359893119#32, 2600822924#32, 528734635#32, 1541459225#32⟩
theorem b55_s0 : steps b55M b55V 0 = ⟨1779033703#32, 3144134277#32, 1013904242#32, 2773480762#32, 1359893119#32, 2600822924#32, 528734635#32, 1541459225#32⟩ := rfl
theorem b55_s1 : steps b55M b55V 1 = ⟨4245194829#32, 1779033703#32, 3144134277#32, 1013904242#32, 2580013730#32, 1359893119#32, 2600822924#32, 528734635#32⟩ := by
  have h1 : t1 ⟨1779033703#32, 3144134277#32, 1013904242#32, 2773480762#32, 1359893119#32, 2600822924#32, 528734635#32, 1541459225#32⟩ (kL.getD 0 0) 16777216#32 = 4101500264#32 := by decide +kernel
  have h2 : t2 ⟨1779033703#32, 3144134277#32, 1013904242#32, 2773480762#32, 1359893119#32, 2600822924#32, 528734635#32, 1541459225#32⟩ = 143694565#32 := by decide +kernel
  show step (steps b55M b55V 0) (kL.getD 0 0) (sch b55M 0) = _
  rw [b55_s0, b55_w0]
  unfold step
  rw [h1, h2]
  rfl
theorem b55_s2 : steps b55M b55V 2 = ⟨4221405836#32, 4245194829#32, 1779033703#32, 3144134277#32, 502649366#32, 2580013730#32, 1359893119#32, 2600822924#32⟩ := by
  have h1 : t1 ⟨4245194829#32, 1779033703#32, 3144134277#32, 1013904242#32, 2580013730#32, 1359893119#32, 2600822924#32, 528734635#32⟩ (kL.getD 1 0) 0#32 = 3783712420#32 := by decide +kernel
  have h2 : t2 ⟨4245194829#32, 1779033703#32, 3144134277#32, 1013904242#32, 2580013730#32, 1359893119#32, 2600822924#32, 528734635#32⟩ = 437693416#32 := by decide +kernel
  show step (steps b55M b55V 1) (kL.getD 1 0) (sch b55M 1) = _
  rw [b55_s1, b55_w1]
  unfold step
  rw [h1, h2]
  rfl
theorem b55_s3 : steps b55M b55V 3 = ⟨2728894896#32, 4221405836#32, 4245194829#32, 1779033703#32, 1180383303#32, 502649366#32, 2580013730#32, 1359893119#32⟩ := by
  have h1 : t1 ⟨4221405836#32, 4245194829#32, 1779033703#32, 3144134277#32, 502649366#32, 2580013730#32, 1359893119#32, 2600822924#32⟩ (kL.getD 2 0) 0#32 = 2331216322#32 := by decide +kernel
  have h2 : t2 ⟨4221405836#32, 4245194829#32, 1779033703#32, 3144134277#32, 502649366#32, 2580013730#32, 1359893119#32, 2600822924#32⟩ = 397678574#32 := by decide +kernel
  show step (steps b55M b55V 2) (kL.getD 2 0) (sch b55M 2) = _
  rw [b55_s2, b55_w2]
  unfold step
  rw [h1, h2]
  rfl
theorem b55_s4 : steps b55M b55V 4 = ⟨3359591766#32, 2728894896#32, 4221405836#32, 4245194829#32, 2064739158#32, 1180383303#32, 502649366#32, 2580013730#32⟩ := by
  have h1 : t1 ⟨2728894896#32, 4221405836#32, 4245194829#32, 1779033703#32, 1180383303#32, 502649366#32, 2580013730#32, 1359893119#32⟩ (kL.getD 3 0) 0#32 = 285705455#32 := by decide +kernel
  have h2 : t2 ⟨2728894896#32, 4221405836#32, 4245194829#32, 1779033703#32, 1180383303#32, 502649366#32, 2580013730#32, 1359893119#32⟩ = 3073886311#32 := by decide +kernel
  show step (steps b55M b55V 3) (kL.getD 3 0) (sch b55M 3) = _
  rw [b55_s3, b55_w3]
  unfold step
  rw [h1, h2]
  rfl
theorem b55_s5 : steps b55M b55V 5 = ⟨3858185507#32, 3359591766#32, 2728894896#32, 4221405836#32, 3534975565#32, 2064739158#32, 1180383303#32, 502649366#32⟩ := by
  have h1 : t1 ⟨3359591766#32, 2728894896#32, 4221405836#32, 4245194829#32, 2064739158#32, 1180383303#32, 502649366#32, 2580013730#32⟩ (kL.getD 4 0) 0#32 = 3584748032#32 := by decide +kernel
  have h2 : t2 ⟨3359591766#32, 2728894896#32, 4221405836#32, 4245194829#32, 2064739158#32, 1180383303#32, 502649366#32, 2580013730#32⟩ = 273437475#32 := by decide +kernel
  show step (steps b55M b55V 4) (kL.getD 4 0) (sch b55M 4) = _
  rw [b55_s4, b55_w4]
  unfold step
  rw [h1, h2]
  rfl
theorem b55_s6 : steps b55M b55V 6 = ⟨2732042291#32, 3858185507#32, 3359591766#32, 2728894896#32, 4045903399#32, 3534975565#32, 2064739158#32, 1180383303#32⟩ := by
  have h1 : t1 ⟨3858185507#32, 3359591766#32, 2728894896#32, 4221405836#32, 3534975565#32, 2064739158#32, 1180383303#32, 502649366#32⟩ (kL.getD 5 0) 0#32 = 4119464859#32 := by decide +kernel
  have h2 : t2 ⟨3858185507#32, 3359591766#32, 2728894896#32, 4221405836#32, 3534975565#32, 2064739158#32, 1180383303#32, 502649366#32⟩ = 2907544728#32 := by decide +kernel
  show step (steps b55M b55V 5) (kL.getD 5 0) (sch b55M 5) = _
  rw [b55_s5, b55_w5]
  unfold step
  rw [h1, h2]
  rfl
theorem b55_s7 : steps b55M b55V 7 = ⟨1413431039#32, 2732042291#32, 3858185507#32, 3359591766#32, 510099778#32, 4045903399#32, 3534975565#32, 2064739158#32⟩ := by
  have h1 : t1 ⟨2732042291#32, 3858185507#32, 3359591766#32, 2728894896#32, 4045903399#32, 3534975565#32, 2064739158#32, 1180383303#32⟩ (kL.getD 6 0) 0#32 = 2076172178#32 := by decide +kernel
  have h2 : t2 ⟨2732042291#32, 3858185507#32, 3359591766#32, 2728894896#32, 4045903399#32, 3534975565#32, 2064739158#32, 1180383303#32⟩ = 3632226157#32 := by decide +kernel
  show step (steps b55M b55V 6) (kL.getD 6 0) (sch b55M 6) = _
  rw [b55_s6, b55_w6]
  unfold step
  rw [h1, h2]
  rfl
theorem b55_s8 : steps b55M b55V 8 = ⟨3454435197#32, 1413431039#32, 2732042291#32, 3858185507#32, 3542089098#32, 510099778#32, 4045903399#32, 3534975565#32⟩ := by
  have h1 : t1 ⟨1413431039#32, 2732042291#32, 3858185507#32, 3359591766#32, 510099778#32, 4045903399#32, 3534975565#32, 2064739158#32⟩ (kL.getD 7 0) 0#32 = 182497332#32 := by decide +kernel
  have h2 : t2 ⟨1413431039#32, 2732042291#32, 3858185507#32, 3359591766#32, 510099778#32, 4045903399#32, 3534975565#32, 2064739158#32⟩ = 3271937865#32 := by decide +kernel
  show step (steps b55M b55V 7) (kL.getD 7 0) (sch b55M 7) = _
  rw [b55_s7, b55_w7]
  unfold step
  rw [h1, h2]
  rfl
theorem b55_s9 : steps b55M b55V 9 = ⟨3375153094#32, 3454435197#32, 1413431039#32, 2732042291#32, 3636639375#32, 3542089098#32, 510099778#32, 4045903399#32⟩ := by
  have h1 : t1 ⟨3454435197#32, 1413431039#32, 2732042291#32, 3858185507#32, 3542089098#32, 510099778#32, 4045903399#32, 3534975565#32⟩ (kL.getD 8 0) 0#32 = 4073421164#32 := by decide +kernel
  have h2 : t2 ⟨3454435197#32, 1413431039#32, 2732042291#32, 3858185507#32, 3542089098#32, 510099778#32, 4045903399#32, 3534975565#32⟩ = 3596699226#32 := by decide +kernel
  show step (steps b55M b55V 8) (kL.getD 8 0) (sch b55M 8) = _
  rw [b55_s8, b55_w8]
  unfold step
  rw [h1, h2]
  rfl
theorem b55_s10 : steps b55M b55V 10 = ⟨893894913#32, 3375153094#32, 3454435197#32, 1413431039#32, 208579461#32, 3636639375#32, 3542089098#32, 510099778#32⟩ := by
  have h1 : t1 ⟨3375153094#32, 3454435197#32, 1413431039#32, 2732042291#32, 3636639375#32, 3542089098#32, 510099778#32, 4045903399#32⟩ (kL.getD 9 0) 67328#32 = 1771504466#32 := by decide +kernel
  have h2 : t2 ⟨3375153094#32, 3454435197#32, 1413431039#32, 2732042291#32, 3636639375#32, 3542089098#32, 510099778#32, 4045903399#32⟩ = 3417357743#32 := by decide +kernel
  show step (steps b55M b55V 9) (kL.getD 9 0) (sch b55M 9) = _
  rw [b55_s9, b55_w9]
  unfold step
  rw [h1, h2]
  rfl
theorem b55_s11 : steps b55M b55V 11 = ⟨2574668156#32, 893894913#32, 3375153094#32, 3454435197#32, 3320984203#32, 208579461#32, 3636639375#32, 3542089098#32⟩ := by
  have h1 : t1 ⟨893894913#32, 3375153094#32, 3454435197#32, 1413431039#32, 208579461#32, 3636639375#32, 3542089098#32, 510099778#32⟩ (kL.getD 10 0) 0#32 = 1907553164#32 := by decide +kernel
  have h2 : t2 ⟨893894913#32, 3375153094#32, 3454435197#32, 1413431039#32, 208579461#32, 3636639375#32, 3542089098#32, 510099778#32⟩ = 667114992#32 := by decide +kernel
  show step (steps b55M b55V 10) (kL.getD 10 0) (sch b55M 10) = _
  rw [b55_s10, b55_w10]
  unfold step
  rw [h1, h2]
  rfl
theorem b55_s12 : steps b55M b55V 12 = ⟨3664303116#32, 2574668156#32, 893894913#32, 3375153094#32, 2582369469#32, 3320984203#32, 208579461#32, 3636639375#32⟩ := by
  have h1 : t1 ⟨2574668156#32, 893894913#32, 3375153094#32, 3454435197#32, 3320984203#32, 208579461#32, 3636639375#32, 3542089098#32⟩ (kL.getD 11 0) 0#32 = 3422901568#32 := by decide +kernel
  have h2 : t2 ⟨2574668156#32, 893894913#32, 3375153094#32, 3454435197#32, 3320984203#32, 208579461#32, 3636639375#32, 3542089098#32⟩ = 241401548#32 := by decide +kernel
  show step (steps b55M b55V 11) (kL.getD 11 0) (sch b55M 11) = _
  rw [b55_s11, b55_w11]
  unfold step
  rw [h1, h2]
  rfl
theorem b55_s13 : steps b55M b55V 13 = ⟨884589224#32, 3664303116#32, 2574668156#32, 893894913#32, 785570870#32, 2582369469#32, 3320984203#32, 208579461#32⟩ := by
  have h1 : t1 ⟨3664303116#32, 2574668156#32, 893894913#32, 3375153094#32, 2582369469#32, 3320984203#32, 208579461#32, 3636639375#32⟩ (kL.getD 12 0) 0#32 = 1705385072#32 := by decide +kernel
  have h2 : t2 ⟨3664303116#32, 2574668156#32, 893894913#32, 3375153094#32, 2582369469#32, 3320984203#32, 208579461#32, 3636639375#32⟩ = 3474171448#32 := by decide +kernel
  show step (steps b55M b55V 12) (kL.getD 12 0) (sch b55M 12) = _
  rw [b55_s12, b55_w12]
  unfold step
  rw [h1, h2]
  rfl
theorem b55_s14 : steps b55M b55V 14 = ⟨639575262#32, 884589224#32, 3664303116#32, 2574668156#32, 3280510973#32, 785570870#32, 2582369469#32, 3320984203#32⟩ := by
  have h1 : t1 ⟨884589224#32, 3664303116#32, 2574668156#32, 893894913#32, 785570870#32, 2582369469#32, 3320984203#32, 208579461#32⟩ (kL.getD 13 0) 128#32 = 2386616060#32 := by decide +kernel
  have h2 : t2 ⟨884589224#32, 3664303116#32, 2574668156#32, 893894913#32, 785570870#32, 2582369469#32, 3320984203#32, 208579461#32⟩ = 2547926498#32 := by decide +kernel
  show step (steps b55M b55V 13) (kL.getD 13 0) (sch b55M 13) = _
  rw [b55_s13, b55_w13]
  unfold step
  rw [h1, h2]
  rfl
theorem b55_s15 : steps b55M b55V 15 = ⟨1405814997#32, 639575262#32, 884589224#32, 3664303116#32, 3810661487#32, 3280510973#32, 785570870#32, 2582369469#32⟩ := by
  have h1 : t1 ⟨639575262#32, 884589224#32, 3664303116#32, 2574668156#32, 3280510973#32, 785570870#32, 2582369469#32, 3320984203#32⟩ (kL.getD 14 0) 0#32 = 1235993331#32 := by decide +kernel
  have h2 : t2 ⟨639575262#32, 884589224#32, 3664303116#32, 2574668156#32, 3280510973#32, 785570870#32, 2582369469#32, 3320984203#32⟩ = 169821666#32 := by decide +kernel
  show step (steps b55M b55V 14) (kL.getD 14 0) (sch b55M 14) = _
  rw [b55_s14, b55_w14]
  unfold step
  rw [h1, h2]
  rfl
theorem b55_s16 : steps b55M b55V 16 = ⟨1139378758#32, 1405814997#32, 639575262#32, 884589224#32, 2839303252#32, 3810661487#32, 3280510973#32, 785570870#32⟩ := by
  have h1 : t1 ⟨1405814997#32, 639575262#32, 884589224#32, 3664303116#32, 3810661487#32, 3280510973#32, 785570870#32, 2582369469#32⟩ (kL.getD 15 0) 440#32 = 3469967432#32 := by decide +kernel
  have h2 : t2 ⟨1405814997#32, 639575262#32, 884589224#32, 3664303116#32, 3810661487#32, 3280510973#32, 785570870#32, 2582369469#32⟩ = 1964378622#32 := by decide +kernel
  show step (steps b55M b55V 15) (kL.getD 15 0) (sch b55M 15) = _
  rw [b55_s15, b55_w15]
  unfold step
  rw [h1, h2]
  rfl
theorem b55_s17 : steps b55M b55V 17 = ⟨3872937755#32, 1139378758#32, 1405814997#32, 639575262#32, 1927654427#32, 2839303252#32, 3810661487#32, 3280510973#32⟩ := by
  have h1 : t1 ⟨1139378758#32, 1405814997#32, 639575262#32, 884589224#32, 2839303252#32, 3810661487#32, 3280510973#32, 785570870#32⟩ (kL.getD 16 0) 16844544#32 = 1043065203#32 := by decide +kernel
  have h2 : t2 ⟨1139378758#32, 1405814997#32, 639575262#32, 884589224#32, 2839303252#32, 3810661487#32, 3280510973#32, 785570870#32⟩ = 2829872552#32 := by decide +kernel
  show step (steps b55M b55V 16) (kL.getD 16 0) (sch b55M 16) = _
  rw [b55_s16, b55_w16]
  unfold step
  rw [h1, h2]
  rfl
theorem b55_s18 : steps b55M b55V 18 = ⟨1439308457#32, 3872937755#32, 1139378758#32, 1405814997#32, 401270929#32, 1927654427#32, 2839303252#32, 3810661487#32⟩ := by
  have h1 : t1 ⟨3872937755#32, 1139378758#32, 1405814997#32, 639575262#32, 1927654427#32, 2839303252#32, 3810661487#32, 3280510973#32⟩ (kL.getD 17 0) 15400960#32 = 4056662963#32 := by decide +kernel
  have h2 : t2 ⟨3872937755#32, 1139378758#32, 1405814997#32, 639575262#32, 1927654427#32, 2839303252#32, 3810661487#32, 3280510973#32⟩ = 1677612790#32 := by decide +kernel
  show step (steps b55M b55V 17) (kL.getD 17 0) (sch b55M 17) = _
  rw [b55_s17, b55_w17]
  unfold step
  rw [h1, h2]
  rfl
theorem b55_s19 : steps b55M b55V 19 = ⟨3831264663#32, 1439308457#32, 3872937755#32, 1139378758#32, 1208800948#32, 401270929#32, 1927654427#32, 2839303252#32⟩ := by
  have h1 : t1 ⟨1439308457#32, 3872937755#32, 1139378758#32, 1405814997#32, 401270929#32, 1927654427#32, 2839303252#32, 3810661487#32⟩ (kL.getD 18 0) 2740994273#32 = 4097953247#32 := by decide +kernel
  have h2 : t2 ⟨1439308457#32, 3872937755#32, 1139378758#32, 1405814997#32, 401270929#32, 1927654427#32, 2839303252#32, 3810661487#32⟩ = 4028278712#32 := by decide +kernel
  show step (steps b55M b55V 18) (kL.getD 18 0) (sch b55M 18) = _
  rw [b55_s18, b55_w18]
  unfold step
  rw [h1, h2]
  rfl
theorem b55_s20 : steps b55M b55V 20 = ⟨3947641337#32, 3831264663#32, 1439308457#32, 3872937755#32, 635374733#32, 1208800948#32, 401270929#32, 1927654427#32⟩ := by
  have h1 : t1 ⟨3831264663#32, 1439308457#32, 3872937755#32, 1139378758#32, 1208800948#32, 401270929#32, 1927654427#32, 2839303252#32⟩ (kL.getD 19 0) 3758111400#32 = 3790963271#32 := by decide +kernel
  have h2 : t2 ⟨3831264663#32, 1439308457#32, 3872937755#32, 1139378758#32, 1208800948#32, 401270929#32, 1927654427#32, 2839303252#32⟩ = 156678066#32 := by decide +kernel
  show step (steps b55M b55V 19) (kL.getD 19 0) (sch b55M 19) = _
  rw [b55_s19, b55_w19]
  unfold step
  rw [h1, h2]
  rfl
theorem b55_s21 : steps b55M b55V 21 = ⟨2436721174#32, 3947641337#32, 3831264663#32, 1439308457#32, 214815686#32, 635374733#32, 1208800948#32, 401270929#32⟩ := by
  have h1 : t1 ⟨3947641337#32, 3831264663#32, 1439308457#32, 3872937755#32, 635374733#32, 1208800948#32, 401270929#32, 1927654427#32⟩ (kL.getD 20 0) 675561036#32 = 636845227#32 := by decide +kernel
  have h2 : t2 ⟨3947641337#32, 3831264663#32, 1439308457#32, 3872937755#32, 635374733#32, 1208800948#32, 401270929#32, 1927654427#32⟩ = 1799875947#32 := by decide +kernel
  show step (steps b55M b55V 20) (kL.getD 20 0) (sch b55M 20) = _
  rw [b55_s20, b55_w20]
  unfold step
  rw [h1, h2]
  rfl
theorem b55_s22 : steps b55M b55V 22 = ⟨2855349937#32, 2436721174#32, 3947641337#32, 3831264663#32, 491472537#32, 214815686#32, 635374733#32, 1208800948#32⟩ := by
  have h1 : t1 ⟨2436721174#32, 3947641337#32, 3831264663#32, 1439308457#32, 214815686#32, 635374733#32, 1208800948#32, 401270929#32⟩ (kL.getD 21 0) 439970830#32 = 3347131376#32 := by decide +kernel
  have h2 : t2 ⟨2436721174#32, 3947641337#32, 3831264663#32, 1439308457#32, 214815686#32, 635374733#32, 1208800948#32, 401270929#32⟩ = 3803185857#32 := by decide +kernel
  show step (steps b55M b55V 21) (kL.getD 21 0) (sch b55M 21) = _
  rw [b55_s21, b55_w21]
  unfold step
  rw [h1, h2]
  rfl
theorem b55_s23 : steps b55M b55V 23 = ⟨74390827#32, 2855349937#32, 2436721174#32, 3947641337#32, 1641188228#32, 491472537#32, 214815686#32, 635374733#32⟩ := by
  have h1 : t1 ⟨2855349937#32, 2436721174#32, 3947641337#32, 3831264663#32, 491472537#32, 214815686#32, 635374733#32, 1208800948#32⟩ (kL.getD 22 0) 2565177821#32 = 2104890861#32 := by decide +kernel
  have h2 : t2 ⟨2855349937#32, 2436721174#32, 3947641337#32, 3831264663#32, 491472537#32, 214815686#32, 635374733#32, 1208800948#32⟩ = 2264467262#32 := by decide +kernel
  show step (steps b55M b55V 22) (kL.getD 22 0) (sch b55M 22) = _
  rw [b55_s22, b55_w22]
  unfold step
  rw [h1, h2]
  rfl
theorem b55_s24 : steps b55M b55V 24 = ⟨3815528398#32, 74390827#32, 2855349937#32, 2436721174#32, 3125025649#32, 1641188228#32, 491472537#32, 214815686#32⟩ := by
  have h1 : t1 ⟨74390827#32, 2855349937#32, 2436721174#32, 3947641337#32, 1641188228#32, 491472537#32, 214815686#32, 635374733#32⟩ (kL.getD 23 0) 2625718016#32 = 3472351608#32 := by decide +kernel
  have h2 : t2 ⟨74390827#32, 2855349937#32, 2436721174#32, 3947641337#32, 1641188228#32, 491472537#32, 214815686#32, 635374733#32⟩ = 343176790#32 := by decide +kernel
  show step (steps b55M b55V 23) (kL.getD 23 0) (sch b55M 23) = _
  rw [b55_s23, b55_w23]
  unfold step
  rw [h1, h2]
  rfl
theorem b55_s25 : steps b55M b55V 25 = ⟨1663701654#32, 3815528398#32, 74390827#32, 2855349937#32, 2584160229#32, 3125025649#32, 1641188228#32, 491472537#32⟩ := by
  have h1 : t1 ⟨3815528398#32, 74390827#32, 2855349937#32, 2436721174#32, 3125025649#32, 1641188228#32, 491472537#32, 214815686#32⟩ (kL.getD 24 0) 3013503228#32 = 147439055#32 := by decide +kernel
  have h2 : t2 ⟨3815528398#32, 74390827#32, 2855349937#32, 2436721174#32, 3125025649#32, 1641188228#32, 491472537#32, 214815686#32⟩ = 1516262599#32 := by decide +kernel
  show step (steps b55M b55V 24) (kL.getD 24 0) (sch b55M 24) = _
  rw [b55_s24, b55_w24]
  unfold step
  rw [h1, h2]
  rfl
theorem b55_s26 : steps b55M b55V 26 = ⟨1625614470#32, 1663701654#32, 3815528398#32, 74390827#32, 57948976#32, 2584160229#32, 3125025649#32, 1641188228#32⟩ := by
  have h1 : t1 ⟨1663701654#32, 3815528398#32, 74390827#32, 2855349937#32, 2584160229#32, 3125025649#32, 1641188228#32, 491472537#32⟩ (kL.getD 25 0) 782812514#32 = 1497566335#32 := by decide +kernel
  have h2 : t2 ⟨1663701654#32, 3815528398#32, 74390827#32, 2855349937#32, 2584160229#32, 3125025649#32, 1641188228#32, 491472537#32⟩ = 128048135#32 := by decide +kernel
  show step (steps b55M b55V 25) (kL.getD 25 0) (sch b55M 25) = _
  rw [b55_s25, b55_w25]
  unfold step
  rw [h1, h2]
  rfl
theorem b55_s27 : steps b55M b55V 27 = ⟨1951127280#32, 1625614470#32, 1663701654#32, 3815528398#32, 3316022544#32, 57948976#32, 2584160229#32, 3125025649#32⟩ := by
  have h1 : t1 ⟨1625614470#32, 1663701654#32, 3815528398#32, 74390827#32, 57948976#32, 2584160229#32, 3125025649#32, 1641188228#32⟩ (kL.getD 26 0) 3645727438#32 = 3241631717#32 := by decide +kernel
  have h2 : t2 ⟨1625614470#32, 1663701654#32, 3815528398#32, 74390827#32, 57948976#32, 2584160229#32, 3125025649#32, 1641188228#32⟩ = 3004462859#32 := by decide +kernel
  show step (steps b55M b55V 26) (kL.getD 26 0) (sch b55M 26) = _
  rw [b55_s26, b55_w26]
  unfold step
  rw [h1, h2]
  rfl
theorem b55_s28 : steps b55M b55V 28 = ⟨1334058059#32, 1951127280#32, 1625614470#32, 1663701654#32, 1287326544#32, 3316022544#32, 57948976#32, 2584160229#32⟩ := by
  have h1 : t1 ⟨1951127280#32, 1625614470#32, 1663701654#32, 3815528398#32, 3316022544#32, 57948976#32, 2584160229#32, 3125025649#32⟩ (kL.getD 27 0) 2723886844#32 = 1766765442#32 := by decide +kernel
  have h2 : t2 ⟨1951127280#32, 1625614470#32, 1663701654#32, 3815528398#32, 3316022544#32, 57948976#32, 2584160229#32, 3125025649#32⟩ = 3862259913#32 := by decide +kernel
  show step (steps b55M b55V 27) (kL.getD 27 0) (sch b55M 27) = _
  rw [b55_s27, b55_w27]
  unfold step
  rw [h1, h2]
  rfl
theorem b55_s29 : steps b55M b55V 29 = ⟨3716006966#32, 1334058059#32, 1951127280#32, 1625614470#32, 3122177022#32, 1287326544#32, 3316022544#32, 57948976#32⟩ := by
  have h1 : t1 ⟨1334058059#32, 1951127280#32, 1625614470#32, 1663701654#32, 1287326544#32, 3316022544#32, 57948976#32, 2584160229#32⟩ (kL.getD 28 0) 929190134#32 = 1458475368#32 := by decide +kernel
  have h2 : t2 ⟨1334058059#32, 1951127280#32, 1625614470#32, 1663701654#32, 1287326544#32, 3316022544#32, 57948976#32, 2584160229#32⟩ = 2257531598#32 := by decide +kernel
  show step (steps b55M b55V 28) (kL.getD 28 0) (sch b55M 28) = _
  rw [b55_s28, b55_w28]
  unfold step
  rw [h1, h2]
  rfl
theorem b55_s30 : steps b55M b55V 30 = ⟨100595357#32, 3716006966#32, 1334058059#32, 1951127280#32, 2812070171#32, 3122177022#32, 1287326544#32, 3316022544#32⟩ := by
  have h1 : t1 ⟨3716006966#32, 1334058059#32, 1951127280#32, 1625614470#32, 3122177022#32, 1287326544#32, 3316022544#32, 57948976#32⟩ (kL.getD 29 0) 2523846152#32 = 1186455701#32 := by decide +kernel
  have h2 : t2 ⟨3716006966#32, 1334058059#32, 1951127280#32, 1625614470#32, 3122177022#32, 1287326544#32, 3316022544#32, 57948976#32⟩ = 3209106952#32 := by decide +kernel
  show step (steps b55M b55V 29) (kL.getD 29 0) (sch b55M 29) = _
  rw [b55_s29, b55_w29]
  unfold step
  rw [h1, h2]
  rfl
theorem b55_s31 : steps b55M b55V 31 = ⟨98334860#32, 100595357#32, 3716006966#32, 1334058059#32, 501060886#32, 2812070171#32, 3122177022#32, 1287326544#32⟩ := by
  have h1 : t1 ⟨100595357#32, 3716006966#32, 1334058059#32, 1951127280#32, 2812070171#32, 3122177022#32, 1287326544#32, 3316022544#32⟩ (kL.getD 30 0) 1867992317#32 = 2844900902#32 := by decide +kernel
  have h2 : t2 ⟨100595357#32, 3716006966#32, 1334058059#32, 1951127280#32, 2812070171#32, 3122177022#32, 1287326544#32, 3316022544#32⟩ = 1548401254#32 := by decide +kernel
  show step (steps b55M b55V 30) (kL.getD 30 0) (sch b55M 30) = _
  rw [b55_s30, b55_w30]
  unfold step
  rw [h1, h2]
  rfl
theorem b55_s32 : steps b55M b55V 32 = ⟨2136106173#32, 98334860#32, 100595357#32, 3716006966#32, 333745045#32, 501060886#32, 2812070171#32, 3122177022#32⟩ := by
  have h1 : t1 ⟨98334860#32, 100595357#32, 3716006966#32, 1334058059#32, 501060886#32, 2812070171#32, 3122177022#32, 1287326544#32⟩ (kL.getD 31 0) 2808172465#32 = 3294654282#32 := by decide +kernel
  have h2 : t2 ⟨98334860#32, 100595357#32, 3716006966#32, 1334058059#32, 501060886#32, 2812070171#32, 3122177022#32, 1287326544#32⟩ = 3136419187#32 := by decide +kernel
  show step (steps b55M b55V 31) (kL.getD 31 0) (sch b55M 31) = _
  rw [b55_s31, b55_w31]
  unfold step
  rw [h1, h2]
  rfl
theorem b55_s33 : steps b55M b55V 33 = ⟨3852595427#32, 2136106173#32, 98334860#32, 100595357#32, 2308155963#32, 333745045#32, 501060886#32, 2812070171#32⟩ := by
  have h1 : t1 ⟨2136106173#32, 98334860#32, 100595357#32, 3716006966#32, 333745045#32, 501060886#32, 2812070171#32, 3122177022#32⟩ (kL.getD 32 0) 1069634094#32 = 2887116293#32 := by decide +kernel
  have h2 : t2 ⟨2136106173#32, 98334860#32, 100595357#32, 3716006966#32, 333745045#32, 501060886#32, 2812070171#32, 3122177022#32⟩ = 965479134#32 := by decide +kernel
  show step (steps b55M b55V 32) (kL.getD 32 0) (sch b55M 32) = _
  rw [b55_s32, b55_w32]
  unfold step
  rw [h1, h2]
  rfl
theorem b55_s34 : steps b55M b55V 34 = ⟨3672013809#32, 3852595427#32, 2136106173#32, 98334860#32, 2170037056#32, 2308155963#32, 333745045#32, 501060886#32⟩ := by
  have h1 : t1 ⟨3852595427#32, 2136106173#32, 98334860#32, 100595357#32, 2308155963#32, 333745045#32, 501060886#32, 2812070171#32⟩ (kL.getD 33 0) 793920034#32 = 2069441699#32 := by decide +kernel
  have h2 : t2 ⟨3852595427#32, 2136106173#32, 98334860#32, 100595357#32, 2308155963#32, 333745045#32, 501060886#32, 2812070171#32⟩ = 1602572110#32 := by decide +kernel
  show step (steps b55M b55V 33) (kL.getD 33 0) (sch b55M 33) = _
  rw [b55_s33, b55_w33]
  unfold step
  rw [h1, h2]
  rfl
theorem b55_s35 : steps b55M b55V 35 = ⟨2716825870#32, 3672013809#32, 3852595427#32, 2136106173#32, 3609391429#32, 2170037056#32, 2308155963#32, 333745045#32⟩ := by
  have h1 : t1 ⟨3672013809#32, 3852595427#32, 2136106173#32, 98334860#32, 2170037056#32, 2308155963#32, 333745045#32, 501060886#32⟩ (kL.getD 34 0) 209903433#32 = 3511056569#32 := by decide +kernel
  have h2 : t2 ⟨3672013809#32, 3852595427#32, 2136106173#32, 98334860#32, 2170037056#32, 2308155963#32, 333745045#32, 501060886#32⟩ = 3500736597#32 := by decide +kernel
  show step (steps b55M b55V 34) (kL.getD 34 0) (sch b55M 34) = _
  rw [b55_s34, b55_w34]
  unfold step
  rw [h1, h2]
  rfl
theorem b55_s36 : steps b55M b55V 36 = ⟨1924337481#32, 2716825870#32, 3672013809#32, 3852595427#32, 841682532#32, 3609391429#32, 2170037056#32, 2308155963#32⟩ := by
  have h1 : t1 ⟨2716825870#32, 3672013809#32, 3852595427#32, 2136106173#32, 3609391429#32, 2170037056#32, 2308155963#32, 333745045#32⟩ (kL.getD 35 0) 327948309#32 = 3000543655#32 := by decide +kernel
  have h2 : t2 ⟨2716825870#32, 3672013809#32, 3852595427#32, 2136106173#32, 3609391429#32, 2170037056#32, 2308155963#32, 333745045#32⟩ = 3218761122#32 := by decide +kernel
  show step (steps b55M b55V 35) (kL.getD 35 0) (sch b55M 35) = _
  rw [b55_s35, b55_w35]
  unfold step
  rw [h1, h2]
  rfl
theorem b55_s37 : steps b55M b55V 37 = ⟨3777396334#32, 1924337481#32, 2716825870#32, 3672013809#32, 3907944584#32, 841682532#32, 3609391429#32, 2170037056#32⟩ := by
  have h1 : t1 ⟨1924337481#32, 2716825870#32, 3672013809#32, 3852595427#32, 841682532#32, 3609391429#32, 2170037056#32, 2308155963#32⟩ (kL.getD 36 0) 930248081#32 = 55349157#32 := by decide +kernel
  have h2 : t2 ⟨1924337481#32, 2716825870#32, 3672013809#32, 3852595427#32, 841682532#32, 3609391429#32, 2170037056#32, 2308155963#32⟩ = 3722047177#32 := by decide +kernel
  show step (steps b55M b55V 36) (kL.getD 36 0) (sch b55M 36) = _
  rw [b55_s36, b55_w36]
  unfold step
  rw [h1, h2]
  rfl
theorem b55_s38 : steps b55M b55V 38 = ⟨173133341#32, 3777396334#32, 1924337481#32, 2716825870#32, 817995156#32, 3907944584#32, 841682532#32, 3609391429#32⟩ := by
  have h1 : t1 ⟨3777396334#32, 1924337481#32, 2716825870#32, 3672013809#32, 3907944584#32, 841682532#32, 3609391429#32, 2170037056#32⟩ (kL.getD 37 0) 3774324413#32 = 1440948643#32 := by decide +kernel
  have h2 : t2 ⟨3777396334#32, 1924337481#32, 2716825870#32, 3672013809#32, 3907944584#32, 841682532#32, 3609391429#32, 2170037056#32⟩ = 3027151994#32 := by decide +kernel
  show step (steps b55M b55V 37) (kL.getD 37 0) (sch b55M 37) = _
  rw [b55_s37, b55_w37]
  unfold step
  rw [h1, h2]
  rfl
theorem b55_s39 : steps b55M b55V 39 = ⟨3455776195#32, 173133341#32, 3777396334#32, 1924337481#32, 2557660004#32, 817995156#32, 3907944584#32, 841682532#32⟩ := by
  have h1 : t1 ⟨173133341#32, 3777396334#32, 1924337481#32, 2716825870#32, 817995156#32, 3907944584#32, 841682532#32, 3609391429#32⟩ (kL.getD 38 0) 4163322022#32 = 4135801430#32 := by decide +kernel
  have h2 : t2 ⟨173133341#32, 3777396334#32, 1924337481#32, 2716825870#32, 817995156#32, 3907944584#32, 841682532#32, 3609391429#32⟩ = 3614942061#32 := by decide +kernel
  show step (steps b55M b55V 38) (kL.getD 38 0) (sch b55M 38) = _
  rw [b55_s38, b55_w38]
  unfold step
  rw [h1, h2]
  rfl
theorem b55_s40 : steps b55M b55V 40 = ⟨189529957#32, 3455776195#32, 173133341#32, 3777396334#32, 4258542287#32, 2557660004#32, 817995156#32, 3907944584#32⟩ := by
  have h1 : t1 ⟨3455776195#32, 173133341#32, 3777396334#32, 1924337481#32, 2557660004#32, 817995156#32, 3907944584#32, 841682532#32⟩ (kL.getD 39 0) 2384455641#32 = 2334204806#32 := by decide +kernel
  have h2 : t2 ⟨3455776195#32, 173133341#32, 3777396334#32, 1924337481#32, 2557660004#32, 817995156#32, 3907944584#32, 841682532#32⟩ = 2150292447#32 := by decide +kernel
  show step (steps b55M b55V 39) (kL.getD 39 0) (sch b55M 39) = _
  rw [b55_s39, b55_w39]
  unfold step
  rw [h1, h2]
  rfl
theorem b55_s41 : steps b55M b55V 41 = ⟨1840238481#32, 189529957#32, 3455776195#32, 173133341#32, 2910002447#32, 4258542287#32, 2557660004#32, 817995156#32⟩ := by
  have h1 : t1 ⟨189529957#32, 3455776195#32, 173133341#32, 3777396334#32, 4258542287#32, 2557660004#32, 817995156#32, 3907944584#32⟩ (kL.getD 40 0) 473634929#32 = 3427573409#32 := by decide +kernel
  have h2 : t2 ⟨189529957#32, 3455776195#32, 173133341#32, 3777396334#32, 4258542287#32, 2557660004#32, 817995156#32, 3907944584#32⟩ = 2707632368#32 := by decide +kernel
  show step (steps b55M b55V 40) (kL.getD 40 0) (sch b55M 40) = _
  rw [b55_s40, b55_w40]
  unfold step
  rw [h1, h2]
  rfl
theorem b55_s42 : steps b55M b55V 42 = ⟨3427741099#32, 1840238481#32, 189529957#32, 3455776195#32, 4023787739#32, 2910002447#32, 4258542287#32, 2557660004#32⟩ := by
  have h1 : t1 ⟨1840238481#32, 189529957#32, 3455776195#32, 173133341#32, 2910002447#32, 4258542287#32, 2557660004#32, 817995156#32⟩ (kL.getD 41 0) 680040111#32 = 3850654398#32 := by decide +kernel
  have h2 : t2 ⟨1840238481#32, 189529957#32, 3455776195#32, 173133341#32, 2910002447#32, 4258542287#32, 2557660004#32, 817995156#32⟩ = 3872053997#32 := by decide +kernel
  show step (steps b55M b55V 41) (kL.getD 41 0) (sch b55M 41) = _
  rw [b55_s41, b55_w41]
  unfold step
  rw [h1, h2]
  rfl
theorem b55_s43 : steps b55M b55V 43 = ⟨2766816441#32, 3427741099#32, 1840238481#32, 189529957#32, 2191148217#32, 4023787739#32, 2910002447#32, 4258542287#32⟩ := by
  have h1 : t1 ⟨3427741099#32, 1840238481#32, 189529957#32, 3455776195#32, 4023787739#32, 2910002447#32, 4258542287#32, 2557660004#32⟩ (kL.getD 42 0) 4240184931#32 = 3030339318#32 := by decide +kernel
  have h2 : t2 ⟨3427741099#32, 1840238481#32, 189529957#32, 3455776195#32, 4023787739#32, 2910002447#32, 4258542287#32, 2557660004#32⟩ = 4031444419#32 := by decide +kernel
  show step (steps b55M b55V 42) (kL.getD 42 0) (sch b55M 42) = _
  rw [b55_s42, b55_w42]
  unfold step
  rw [h1, h2]
  rfl
theorem b55_s44 : steps b55M b55V 44 = ⟨909485752#32, 2766816441#32, 3427741099#32, 1840238481#32, 1856833397#32, 2191148217#32, 4023787739#32, 2910002447#32⟩ := by
  have h1 : t1 ⟨2766816441#32, 3427741099#32, 1840238481#32, 189529957#32, 2191148217#32, 4023787739#32, 2910002447#32, 4258542287#32⟩ (kL.getD 43 0) 2987721572#32 = 1667303440#32 := by decide +kernel
  have h2 : t2 ⟨2766816441#32, 3427741099#32, 1840238481#32, 189529957#32, 2191148217#32, 4023787739#32, 2910002447#32, 4258542287#32⟩ = 3537149608#32 := by decide +kernel
  show step (steps b55M b55V 43) (kL.getD 43 0) (sch b55M 43) = _
  rw [b55_s43, b55_w43]
  unfold step
  rw [h1, h2]
  rfl
theorem b55_s45 : steps b55M b55V 45 = ⟨1547314166#32, 909485752#32, 2766816441#32, 3427741099#32, 916755955#32, 1856833397#32, 2191148217#32, 4023787739#32⟩ := by
  have h1 : t1 ⟨909485752#32, 2766816441#32, 3427741099#32, 1840238481#32, 1856833397#32, 2191148217#32, 4023787739#32, 2910002447#32⟩ (kL.getD 44 0) 1484767605#32 = 3371484770#32 := by decide +kernel
  have h2 : t2 ⟨909485752#32, 2766816441#32, 3427741099#32, 1840238481#32, 1856833397#32, 2191148217#32, 4023787739#32, 2910002447#32⟩ = 2470796692#32 := by decide +kernel
  show step (steps b55M b55V 44) (kL.getD 44 0) (sch b55M 44) = _
  rw [b55_s44, b55_w44]
  unfold step
  rw [h1, h2]
  rfl
theorem b55_s46 : steps b55M b55V 46 = ⟨4146430067#32, 1547314166#32, 909485752#32, 2766816441#32, 788977418#32, 916755955#32, 1856833397#32, 2191148217#32⟩ := by
  have h1 : t1 ⟨1547314166#32, 909485752#32, 2766816441#32, 3427741099#32, 916755955#32, 1856833397#32, 2191148217#32, 4023787739#32⟩ (kL.getD 45 0) 3566435721#32 = 1656203615#32 := by decide +kernel
  have h2 : t2 ⟨1547314166#32, 909485752#32, 2766816441#32, 3427741099#32, 916755955#32, 1856833397#32, 2191148217#32, 4023787739#32⟩ = 2490226452#32 := by decide +kernel
  show step (steps b55M b55V 45) (kL.getD 45 0) (sch b55M 45) = _
  rw [b55_s45, b55_w45]
  unfold step
  rw [h1, h2]
  rfl
theorem b55_s47 : steps b55M b55V 47 = ⟨1086134379#32, 4146430067#32, 1547314166#32, 909485752#32, 119186246#32, 788977418#32, 916755955#32, 1856833397#32⟩ := by
  have h1 : t1 ⟨4146430067#32, 1547314166#32, 909485752#32, 2766816441#32, 788977418#32, 916755955#32, 1856833397#32, 2191148217#32⟩ (kL.getD 46 0) 977784903#32 = 1647337101#32 := by decide +kernel
  have h2 : t2 ⟨4146430067#32, 1547314166#32, 909485752#32, 2766816441#32, 788977418#32, 916755955#32, 1856833397#32, 2191148217#32⟩ = 3733764574#32 := by decide +kernel
  show step (steps b55M b55V 46) (kL.getD 46 0) (sch b55M 46) = _
  rw [b55_s46, b55_w46]
  unfold step
  rw [h1, h2]
  rfl
theorem b55_s48 : steps b55M b55V 48 = ⟨2475089164#32, 1086134379#32, 4146430067#32, 1547314166#32, 2389349473#32, 119186246#32, 788977418#32, 916755955#32⟩ := by
  have h1 : t1 ⟨1086134379#32, 4146430067#32, 1547314166#32, 909485752#32, 119186246#32, 788977418#32, 916755955#32, 1856833397#32⟩ (kL.getD 47 0) 2749989687#32 = 1479863721#32 := by decide +kernel
  have h2 : t2 ⟨1086134379#32, 4146430067#32, 1547314166#32, 909485752#32, 119186246#32, 788977418#32, 916755955#32, 1856833397#32⟩ = 995225443#32 := by decide +kernel
  show step (steps b55M b55V 47) (kL.getD 47 0) (sch b55M 47) = _
  rw [b55_s47, b55_w47]
  unfold step
  rw [h1, h2]
  rfl
theorem b55_s49 : steps b55M b55V 49 = ⟨2916966221#32, 2475089164#32, 1086134379#32, 4146430067#32, 1585500573#32, 2389349473#32, 119186246#32, 788977418#32⟩ := by
  have h1 : t1 ⟨2475089164#32, 1086134379#32, 4146430067#32, 1547314166#32, 2389349473#32, 119186246#32, 788977418#32, 916755955#32⟩ (kL.getD 48 0) 1269578640#32 = 38186407#32 := by decide +kernel
  have h2 : t2 ⟨2475089164#32, 1086134379#32, 4146430067#32, 1547314166#32, 2389349473#32, 119186246#32, 788977418#32, 916755955#32⟩ = 2878779814#32 := by decide +kernel
  show step (steps b55M b55V 48) (kL.getD 48 0) (sch b55M 48) = _
  rw [b55_s48, b55_w48]
  unfold step
  rw [h1, h2]
  rfl
theorem b55_s50 : steps b55M b55V 50 = ⟨190174728#32, 2916966221#32, 2475089164#32, 1086134379#32, 2625038752#32, 1585500573#32, 2389349473#32, 119186246#32⟩ := by
  have h1 : t1 ⟨2916966221#32, 2475089164#32, 1086134379#32, 4146430067#32, 1585500573#32, 2389349473#32, 119186246#32, 788977418#32⟩ (kL.getD 49 0) 1111447013#32 = 2773575981#32 := by decide +kernel
  have h2 : t2 ⟨2916966221#32, 2475089164#32, 1086134379#32, 4146430067#32, 1585500573#32, 2389349473#32, 119186246#32, 788977418#32⟩ = 1711566043#32 := by decide +kernel
  show step (steps b55M b55V 49) (kL.getD 49 0) (sch b55M 49) = _
  rw [b55_s49, b55_w49]
  unfold step
  rw [h1, h2]
  rfl
theorem b55_s51 : steps b55M b55V 51 = ⟨3535400384#32, 190174728#32, 2916966221#32, 2475089164#32, 2715031582#32, 2625038752#32, 1585500573#32, 2389349473#32⟩ := by
  have h1 : t1 ⟨190174728#32, 2916966221#32, 2475089164#32, 1086134379#32, 2625038752#32, 1585500573#32, 2389349473#32, 119186246#32⟩ (kL.getD 50 0) 2274658859#32 = 1628897203#32 := by decide +kernel
  have h2 : t2 ⟨190174728#32, 2916966221#32, 2475089164#32, 1086134379#32, 2625038752#32, 1585500573#32, 2389349473#32, 119186246#32⟩ = 1906503181#32 := by decide +kernel
  show step (steps b55M b55V 50) (kL.getD 50 0) (sch b55M 50) = _
  rw [b55_s50, b55_w50]
  unfold step
  rw [h1, h2]
  rfl
theorem b55_s52 : steps b55M b55V 52 = ⟨3827078435#32, 3535400384#32, 190174728#32, 2916966221#32, 782607602#32, 2715031582#32, 2625038752#32, 1585500573#32⟩ := by
  have h1 : t1 ⟨3535400384#32, 190174728#32, 2916966221#32, 2475089164#32, 2715031582#32, 2625038752#32, 1585500573#32, 2389349473#32⟩ (kL.getD 51 0) 1716471708#32 = 2602485734#32 := by decide +kernel
  have h2 : t2 ⟨3535400384#32, 190174728#32, 2916966221#32, 2475089164#32, 2715031582#32, 2625038752#32, 1585500573#32, 2389349473#32⟩ = 1224592701#32 := by decide +kernel
  show step (steps b55M b55V 51) (kL.getD 51 0) (sch b55M 51) = _
  rw [b55_s51, b55_w51]
  unfold step
  rw [h1, h2]
  rfl
theorem b55_s53 : steps b55M b55V 53 = ⟨2448584665#32, 3827078435#32, 3535400384#32, 190174728#32, 1533374442#32, 782607602#32, 2715031582#32, 2625038752#32⟩ := by
  have h1 : t1 ⟨3827078435#32, 3535400384#32, 190174728#32, 2916966221#32, 782607602#32, 2715031582#32, 2625038752#32, 1585500573#32⟩ (kL.getD 52 0) 1625796107#32 = 2911375517#32 := by decide +kernel
  have h2 : t2 ⟨3827078435#32, 3535400384#32, 190174728#32, 2916966221#32, 782607602#32, 2715031582#32, 2625038752#32, 1585500573#32⟩ = 3832176444#32 := by decide +kernel
  show step (steps b55M b55V 52) (kL.getD 52 0) (sch b55M 52) = _
  rw [b55_s52, b55_w52]
  unfold step
  rw [h1, h2]
  rfl
theorem b55_s54 : steps b55M b55V 54 = ⟨161409249#32, 2448584665#32, 3827078435#32, 3535400384#32, 1898733318#32, 1533374442#32, 782607602#32, 2715031582#32⟩ := by
  have h1 : t1 ⟨2448584665#32, 3827078435#32, 3535400384#32, 190174728#32, 1533374442#32, 782607602#32, 2715031582#32, 2625038752#32⟩ (kL.getD 53 0) 3913331679#32 = 1708558590#32 := by decide +kernel
  have h2 : t2 ⟨2448584665#32, 3827078435#32, 3535400384#32, 190174728#32, 1533374442#32, 782607602#32, 2715031582#32, 2625038752#32⟩ = 2747817955#32 := by decide +kernel
  show step (steps b55M b55V 53) (kL.getD 53 0) (sch b55M 53) = _
  rw [b55_s53, b55_w53]
  unfold step
  rw [h1, h2]
  rfl
theorem b55_s55 : steps b55M b55V 55 = ⟨3871249676#32, 161409249#32, 2448584665#32, 3827078435#32, 3104645634#32, 1898733318#32, 1533374442#32, 782607602#32⟩ := by
  have h1 : t1 ⟨161409249#32, 2448584665#32, 3827078435#32, 3535400384#32, 1898733318#32, 1533374442#32, 782607602#32, 2715031582#32⟩ (kL.getD 54 0) 437733908#32 = 3864212546#32 := by decide +kernel
  have h2 : t2 ⟨161409249#32, 2448584665#32, 3827078435#32, 3535400384#32, 1898733318#32, 1533374442#32, 782607602#32, 2715031582#32⟩ = 7037130#32 := by decide +kernel
  show step (steps b55M b55V 54) (kL.getD 54 0) (sch b55M 54) = _
  rw [b55_s54, b55_w54]
  unfold step
  rw [h1, h2]
  rfl
theorem b55_s56 : steps b55M b55V 56 = ⟨349952370#32, 3871249676#32, 161409249#32, 2448584665#32, 194829727#32, 3104645634#32, 1898733318#32, 1533374442#32⟩ := by
  have h1 : t1 ⟨3871249676#32, 161409249#32, 2448584665#32, 3827078435#32, 3104645634#32, 1898733318#32, 1533374442#32, 782607602#32⟩ (kL.getD 55 0) 1360908093#32 = 662718588#32 := by decide +kernel
  have h2 : t2 ⟨3871249676#32, 161409249#32, 2448584665#32, 3827078435#32, 3104645634#32, 1898733318#32, 1533374442#32, 782607602#32⟩ = 3982201078#32 := by decide +kernel
  show step (steps b55M b55V 55) (kL.getD 55 0) (sch b55M 55) = _
  rw [b55_s55, b55_w55]
  unfold step
  rw [h1, h2]
  rfl
theorem b55_s57 : steps b55M b55V 57 = ⟨2597943870#32, 349952370#32, 3871249676#32, 161409249#32, 107575270#32, 194829727#32, 3104645634#32, 1898733318#32⟩ := by
  have h1 : t1 ⟨349952370#32, 3871249676#32, 161409249#32, 2448584665#32, 194829727#32, 3104645634#32, 1898733318#32, 1533374442#32⟩ (kL.getD 56 0) 699679691#32 = 1953957901#32 := by decide +kernel
  have h2 : t2 ⟨349952370#32, 3871249676#32, 161409249#32, 2448584665#32, 194829727#32, 3104645634#32, 1898733318#32, 1533374442#32⟩ = 643985969#32 := by decide +kernel
  show step (steps b55M b55V 56) (kL.getD 56 0) (sch b55M 56) = _
  rw [b55_s56, b55_w56]
  unfold step
  rw [h1, h2]
  rfl
theorem b55_s58 : steps b55M b55V 58 = ⟨2336713697#32, 2597943870#32, 349952370#32, 3871249676#32, 3948939605#32, 107575270#32, 194829727#32, 3104645634#32⟩ := by
  have h1 : t1 ⟨2597943870#32, 349952370#32, 3871249676#32, 161409249#32, 107575270#32, 194829727#32, 3104645634#32, 1898733318#32⟩ (kL.getD 57 0) 3967839367#32 = 3787530356#32 := by decide +kernel
  have h2 : t2 ⟨2597943870#32, 349952370#32, 3871249676#32, 161409249#32, 107575270#32, 194829727#32, 3104645634#32, 1898733318#32⟩ = 2844150637#32 := by decide +kernel
  show step (steps b55M b55V 57) (kL.getD 57 0) (sch b55M 57) = _
  rw [b55_s57, b55_w57]
  unfold step
  rw [h1, h2]
  rfl
theorem b55_s59 : steps b55M b55V 59 = ⟨1976949503#32, 2336713697#32, 2597943870#32, 349952370#32, 2705780139#32, 3948939605#32, 107575270#32, 194829727#32⟩ := by
  have h1 : t1 ⟨2336713697#32, 2597943870#32, 349952370#32, 3871249676#32, 3948939605#32, 107575270#32, 194829727#32, 3104645634#32⟩ (kL.getD 58 0) 2896273898#32 = 3129497759#32 := by decide +kernel
  have h2 : t2 ⟨2336713697#32, 2597943870#32, 349952370#32, 3871249676#32, 3948939605#32, 107575270#32, 194829727#32, 3104645634#32⟩ = 3142419040#32 := by decide +kernel
  show step (steps b55M b55V 58) (kL.getD 58 0) (sch b55M 58) = _
  rw [b55_s58, b55_w58]
  unfold step
  rw [h1, h2]
  rfl
theorem b55_s60 : steps b55M b55V 60 = ⟨1389801817#32, 1976949503#32, 2336713697#32, 2597943870#32, 1844963846#32, 2705780139#32, 3948939605#32, 107575270#32⟩ := by
  have h1 : t1 ⟨1976949503#32, 2336713697#32, 2597943870#32, 349952370#32, 2705780139#32, 3948939605#32, 107575270#32, 194829727#32⟩ (kL.getD 59 0) 1623666413#32 = 1495011476#32 := by decide +kernel
  have h2 : t2 ⟨1976949503#32, 2336713697#32, 2597943870#32, 349952370#32, 2705780139#32, 3948939605#32, 107575270#32, 194829727#32⟩ = 4189757637#32 := by decide +kernel
  show step (steps b55M b55V 59) (kL.getD 59 0) (sch b55M 59) = _
  rw [b55_s59, b55_w59]
  unfold step
  rw [h1, h2]
  rfl
theorem b55_s61 : steps b55M b55V 61 = ⟨2995649701#32, 1389801817#32, 1976949503#32, 2336713697#32, 1960123202#32, 1844963846#32, 2705780139#32, 3948939605#32⟩ := by
  have h1 : t1 ⟨1389801817#32, 1976949503#32, 2336713697#32, 2597943870#32, 1844963846#32, 2705780139#32, 3948939605#32, 107575270#32⟩ (kL.getD 60 0) 4244430190#32 = 3657146628#32 := by decide +kernel
  have h2 : t2 ⟨1389801817#32, 1976949503#32, 2336713697#32, 2597943870#32, 1844963846#32, 2705780139#32, 3948939605#32, 107575270#32⟩ = 3633470369#32 := by decide +kernel
  show step (steps b55M b55V 60) (kL.getD 60 0) (sch b55M 60) = _
  rw [b55_s60, b55_w60]
  unfold step
  rw [h1, h2]
  rfl
theorem b55_s62 : steps b55M b55V 62 = ⟨2423716846#32, 2995649701#32, 1389801817#32, 1976949503#32, 3932942662#32, 1960123202#32, 1844963846#32, 2705780139#32⟩ := by
  have h1 : t1 ⟨2995649701#32, 1389801817#32, 1976949503#32, 2336713697#32, 1960123202#32, 1844963846#32, 2705780139#32, 3948939605#32⟩ (kL.getD 61 0) 3733696646#32 = 1596228965#32 := by decide +kernel
  have h2 : t2 ⟨2995649701#32, 1389801817#32, 1976949503#32, 2336713697#32, 1960123202#32, 1844963846#32, 2705780139#32, 3948939605#32⟩ = 827487881#32 := by decide +kernel
  show step (steps b55M b55V 61) (kL.getD 61 0) (sch b55M 61) = _
  rw [b55_s61, b55_w61]
  unfold step
  rw [h1, h2]
  rfl
theorem b55_s63 : steps b55M b55V 63 = ⟨2625747360#32, 2423716846#32, 2995649701#32, 1389801817#32, 3740930981#32, 3932942662#32, 1960123202#32, 1844963846#32⟩ := by
  have h1 : t1 ⟨2423716846#32, 2995649701#32, 1389801817#32, 1976949503#32, 3932942662#32, 1960123202#32, 1844963846#32, 2705780139#32⟩ (kL.getD 62 0) 2625784308#32 = 1763981478#32 := by decide +kernel
  have h2 : t2 ⟨2423716846#32, 2995649701#32, 1389801817#32, 1976949503#32, 3932942662#32, 1960123202#32, 1844963846#32, 2705780139#32⟩ = 861765882#32 := by decide +kernel
  show step (steps b55M b55V 62) (kL.getD 62 0) (sch b55M 62) = _
  rw [b55_s62, b55_w62]
  unfold step
  rw [h1, h2]
  rfl
theorem b55_s64 : steps b55M b55V 64 = ⟨3723693892#32, 2625747360#32, 2423716846#32, 2995649701#32, 3011624674#32, 3740930981#32, 3932942662#32, 1960123202#32⟩ := by
  have h1 : t1 ⟨2625747360#32, 2423716846#32, 2995649701#32, 1389801817#32, 3740930981#32, 3932942662#32, 1960123202#32, 1844963846#32⟩ (kL.getD 63 0) 2735254376#32 = 1621822857#32 := by decide +kernel
  have h2 : t2 ⟨2625747360#32, 2423716846#32, 2995649701#32, 1389801817#32, 3740930981#32, 3932942662#32, 1960123202#32, 1844963846#32⟩ = 2101871035#32 := by decide +kernel
  show step (steps b55M b55V 63) (kL.getD 63 0) (sch b55M 63) = _
  rw [b55_s63, b55_w63]
  unfold step
  rw [h1, h2]
  rfl
theorem b55_run : run (pad b55L) 1 = ⟨1207760299#32, 1474914341#32, 3437621088#32, 1474163167#32, 76550497#32, 2046786609#32, 166710001#32, 3501582427#32⟩ := by
  rw [b55_pad]
  show add8 b55V (steps b55M b55V 64) = _
  rw [b55_s64]
  rfl
theorem b55_sum : sum b55L = [71#8, 252#8, 245#8, 171#8, 87#8, 233#8, 104#8, 37#8, 204#8, 229#8, 239#8, 96#8, 87#8, 221#8, 241#8, 223#8, 4#8, 144#8, 17#8, 97#8, 121#8, 255#8, 124#8, 49#8, 9#8, 239#8, 202#8, 241#8, 208#8, 181#8, 232#8, 91#8] := by
  have e : sum b55L = out ⟨1207760299#32, 1474914341#32, 3437621088#32, 1474163167#32, 76550497#32, 2046786609#32, 166710001#32, 3501582427#32⟩ := by
    unfold sum
    rw [show (pad b55L).length / 64 = 1 by rw [b55_pad]; rfl, b55_run]
  rw [e]
  decide +kernel
def b32L : List (BitVec 8) := [71#8, 252#8, 245#8, 171#8, 87#8, 233#8, 104#8, 37#8, 204#8, 229#8, 239#8, 96#8, 87#8, 221#8, 241#8, 223#8, 4#8, 144#8, 17#8, 97#8, 121#8, 255#8, 124#8, 49#8, 9#8, 239#8, 202#8, 241#8, 208#8, 181#8, 232#8, 91#8]
theorem b32_pad : pad b32L = [71#8, 252#8, 245#8, 171#8, 87#8, 233#8, 104#8, 37#8, 204#8, 229#8, 239#8, 96#8, 87#8, 221#8, 241#8, 223#8, 4#8, 144#8, 17#8, 97#8, 121#8, 255#8, 124#8, 49#8, 9#8, 239#8, 202#8, 241#8, 208#8, 181#8, 232#8, 91#8, 128#8, 0#8, 0#8, 0#8, 0#8, 0#8, 0#8, 0#8, 0#8, 0#8, 0#8, 0#8, 0#8, 0#8, 0#8, 0#8, 0#8, 0#8, 0#8, 0#8, 0#8, 0#8, 0#8, 0#8, 0#8, 0#8, 0#8, 0#8, 0#8, 0#8, 1#8, 0#8] := by decide +kernel
def b32M : Nat → BitVec 32 := blk [71#8, 252#8, 245#8, 171#8, 87#8, 233#8, 104#8, 37#8, 204#8, 229#8, 239#8, 96#8, 87#8, 221#8, 241#8, 223#8, 4#8, 144#8, 17#8, 97#8, 121#8, 255#8, 124#8, 49#8, 9#8, 239#8, 202#8, 241#8, 208#8, 181#8, 232#8, 91#8, 128#8, 0#8, 0#8, 0#8, 0#8, 0#8, 0#8, 0#8, 0#8, 0#8, 0#8, 0#8, 0#8, 0#8, 0#8, 0#8, 0#8, 0#8, 0#8, 0#8, 0#8, 0#8, 0#8, 0#8, 0#8, 0#8, 0#8, 0#8, 0#8, 0#8, 1#8, 0#8] 0
theorem b32_w0 : sch b32M 0 = 1207760299#32 := by rw [sch_lo _ (by omega)]; decide +kernel
theorem b32_w1 : sch b32M 1 = 1474914341#32 := by rw [sch_lo _ (by omega)]; decide +kernel
theorem b32_w2 : sch b32M 2 = 3437621088#32 := by rw [sch_lo _ (by omega)]; decide +kernel
theorem b32_w3 : sch b32M 3 = 1474163167#32 := by rw [sch_lo _ (by omega)]; decide +kernel
theorem b32_w4 : sch b32M 4 = 76550497#32 := by rw [sch_lo _ (by omega)]; decide +kernel
theorem b32_w5 : sch b32M 5 = 2046786609#32 := by rw [sch_lo _ (by omega)]; decide +kernel
theorem b32_w6 : sch b32M 6 = 166710001#32 := by rw [sch_lo _ (by omega)]; decide +kernel
theorem b32_w7 : sch b32M 7 = 3501582427#32 := by rw [sch_lo _ (by omega)]; decide +kernel
theorem b32_w8 : sch b32M 8 = 2147483648#32 := by rw [sch_lo _ (by omega)]; decide +kernel
theorem b32_w9 : sch b32M 9 = 0#32 := by rw [sch_lo _ (by omega)]; decide +kernel
theorem b32_w10 : sch b32M 10 = 0#32 := by rw [sch_lo _ (by omega)]; decide +kernel
theorem b32_w11 : sch b32M 11 = 0#32 := by rw [sch_lo _ (by omega)]; decide +kernel
theorem b32_w12 : sch b32M 12 = 0#32 := by rw [sch_lo _ (by omega)]; decide +kernel
theorem b32_w13 : sch b32M 13 = 0#32 := by rw [sch_lo _ (by omega)]; decide +kernel
theorem b32_w14 : sch b32M 14 = 0#32 := by rw [sch_lo _ (by omega)]; decide +kernel
theorem b32_w15 : sch b32M 15 = 256#32 := by rw [sch_lo _ (by omega)]; decide +kernel
theorem b32_w16 : sch b32M 16 = 1649975257#32 := by rw [sch_hi _ (by omega), show 16 - 2 = 14 from rfl, show 16 - 7 = 9 from rfl, show 16 - 15 = 1 from rfl, show 16 - 16 = 0 from rfl, b32_w14, b32_w9, b32_w1, b32_w0]; decide +kernel
theorem b32_w17 : sch b32M 17 = 4234587440#32 := by rw [sch_hi _ (by omega), show 17 - 2 = 15 from rfl, show 17 - 7 = 10 from rfl, show 17 - 15 = 2 from rfl, show 17 - 16 = 1 from rfl, b32_w15, b32_w10, b32_w2, b32_w1]; decide +kernel
theorem b32_w18 : sch b32M 18 = 4044933839#32 := by rw [sch_hi _ (by omega), show 18 - 2 = 16 from rfl, show 18 - 7 = 11 from rfl, show 18 - 15 = 3 from rfl, show 18 - 16 = 2 from rfl, b32_w16, b32_w11, b32_w3, b32_w2]; decide +kernel
theorem b32_w19 : sch b32M 19 = 2711801117#32 := by rw [sch_hi _ (by omega), show 19 - 2 = 17 from rfl, show 19 - 7 = 12 from rfl, show 19 - 15 = 4 from rfl, show 19 - 16 = 3 from rfl, b32_w17, b32_w12, b32_w4, b32_w3]; decide +kernel
theorem b32_w20 : sch b32M 20 = 861053183#32 := by rw [sch_hi _ (by omega), show 20 - 2 = 18 from rfl, show 20 - 7 = 13 from rfl, show 20 - 15 = 5 from rfl, show 20 - 16 = 4 from rfl, b32_w18, b32_w13, b32_w5, b32_w4]; decide +kernel
theorem b32_w21 : sch b32M 21 = 3398888759#32 := by rw [sch_hi _ (by omega), show 21 - 2 = 19 from rfl, show 21 - 7 = 14 from rfl, show 21 - 15 = 6 from rfl, show 21 - 16 = 5 from rfl, b32_w19, b32_w14, b32_w6, b32_w5]; decide +kernel
theorem b32_w22 : sch b32M 22 = 3858602578#32 := by rw [sch_hi _ (by omega), show 22 - 2 = 20 from rfl, show 22 - 7 = 15 from rfl, show 22 - 15 = 7 from rfl, show 22 - 16 = 6 from rfl, b32_w20, b32_w15, b32_w7, b32_w6]; decide +kernel
theorem b32_w23 : sch b32M 23 = 4011745750#32 := by rw [sch_hi _ (by omega), show 23 - 2 = 21 from rfl, show 23 - 7 = 16 from rfl, show 23 - 15 = 8 from rfl, show 23 - 16 = 7 from rfl, b32_w21, b32_w16, b32_w8, b32_w7]; decide +kernel
theorem b32_w24 : sch b32M 24 = 4206952023#32 := by rw [sch_hi _ (by omega), show 24 - 2 = 22 from rfl, show 24 - 7 = 17 from rfl, show 24 - 15 = 9 from rfl, show 24 - 16 = 8 from rfl, b32_w22, b32_w17, b32_w9, b32_w8]; decide +kernel
theorem b32_w25 : sch b32M 25 = 3993188547#32 := by rw [sch_hi _ (by omega), show 25 - 2 = 23 from rfl, show 25 - 7 = 18 from rfl, show 25 - 15 = 10 from rfl, show 25 - 16 = 9 from rfl, b32_w23, b32_w18, b32_w10, b32_w9]; decide +kernel
theorem b32_w26 : sch b32M 26 = 42106660#32 := by rw [sch_hi _ (by omega), show 26 - 2 = 24 from rfl, show 26 - 7 = 19 from rfl, show 26 - 15 = 11 from rfl, show 26 - 16 = 10 from rfl, b32_w24, b32_w19, b32_w11, b32_w10]; decide +kernel
theorem b32_w27 : sch b32M 27 = 781495054#32 := by rw [sch_hi _ (by omega), show 27 - 2 = 25 from rfl, show 27 - 7 = 20 from rfl, show 27 - 15 = 12 from rfl, show 27 - 16 = 11 from rfl, b32_w25, b32_w20, b32_w12, b32_w11]; decide +kernel
theorem b32_w28 : sch b32M 28 = 990711493#32 := by rw [sch_hi _ (by omega), show 28 - 2 = 26 from rfl, show 28 - 7 = 21 from rfl, show 28 - 15 = 13 from rfl, show 28 - 16 = 12 from rfl, b32_w26, b32_w21, b32_w13, b32_w12]; decide +kernel
theorem b32_w29 : sch b32M 29 = 2800423428#32 := by rw [sch_hi _ (by omega), show 29 - 2 = 27 from rfl, show 29 - 7 = 22 from rfl, show 29 - 15 = 14 from rfl, show 29 - 16 = 13 from rfl, b32_w27, b32_w22, b32_w14, b32_w13]; decide +kernel
theorem b32_w30 : sch b32M 30 = 370367388#32 := by rw [sch_hi _ (by omega), show 30 - 2 = 28 from rfl, show 30 - 7 = 23 from rfl, show 30 - 15 = 15 from rfl, show 30 - 16 = 14 from rfl, b32_w28, b32_w23, b32_w15, b32_w14]; decide +kernel
theorem b32_w31 : sch b32M 31 = 2141615893#32 := by rw [sch_hi _ (by omega), show 31 - 2 = 29 from rfl, show 31 - 7 = 24 from rfl, show 31 - 15 = 16 from rfl, show 31 - 16 = 15 from rfl, b32_w29, b32_w24, b32_w16, b32_w15]; decide +kernel
theorem b32_w32 : sch b32M 32 = 3964407198#32 := by rw [sch_hi _ (by omega), show 32 - 2 = 30 from rfl, show 32 - 7 = 25 from rfl, show 32 - 15 = 17 from rfl, show 32 - 16 = 16 from rfl, b32_w30, b32_w25, b32_w17, b32_w16]; decide +kernel
theorem b32_w33 : sch b32M 33 = 2815687320#32 := by rw [sch_hi _ (by omega), show 33 - 2 = 31 from rfl, show 33 - 7 = 26 from rfl, show 33 - 15 = 18 from rfl, show 33 - 16 = 17 from rfl, b32_w31, b32_w26, b32_w18, b32_w17]; decide +kernel
theorem b32_w34 : sch b32M 34 = 1126539994#32 := by rw [sch_hi _ (by omega), show 34 - 2 = 32 from rfl, show 34 - 7 = 27 from rfl, show 34 - 15 = 19 from rfl, show 34 - 16 = 18 from rfl, b32_w32, b32_w27, b32_w19, b32_w18]; decide +kernel
theorem b32_w35 : sch b32M 35 = 2937703769#32 := by rw [sch_hi _ (by omega), show 35 - 2 = 33 from rfl, show 35 - 7 = 28 from rfl, show 35 - 15 = 20 from rfl, show 35 - 16 = 19 from rfl, b32_w33, b32_w28, b32_w20, b32_w19]; decide +kernel
theorem b32_w36 : sch b32M 36 = 216946298#32 := by rw [sch_hi _ (by omega), show 36 - 2 = 34 from rfl, show 36 - 7 = 29 from rfl, show 36 - 15 = 21 from rfl, show 36 - 16 = 20 from rfl, b32_w34, b32_w29, b32_w21, b32_w20]; decide +kernel
theorem b32_w37 : sch b32M 37 = 2679594480#32 := by rw [sch_hi _ (by omega), show 37 - 2 = 35 from rfl, show 37 - 7 = 30 from rfl, show 37 - 15 = 22 from rfl, show 37 - 16 = 21 from rfl, b32_w35, b32_w30, b32_w22, b32_w21]; decide +kernel
theorem b32_w38 : sch b32M 38 = 1876810020#32 := by rw [sch_hi _ (by omega), show 38 - 2 = 36 from rfl, show 38 - 7 = 31 from rfl, show 38 - 15 = 23 from rfl, show 38 - 16 = 22 from rfl, b32_w36, b32_w31, b32_w23, b32_w22]; decide +kernel
theorem b32_w39 : sch b32M 39 = 2953085428#32 := by rw [sch_hi _ (by omega), show 39 - 2 = 37 from rfl, show 39 - 7 = 32 from rfl, show 39 - 15 = 24 from rfl, show 39 - 16 = 23 from rfl, b32_w37, b32_w32, b32_w24, b32_w23]; decide +kernel
theorem b32_w40 : sch b32M 40 = 1315889467#32 := by rw [sch_hi _ (by omega), show 40 - 2 = 38 from rfl, show 40 - 7 = 33 from rfl, show 40 - 15 = 25 from rfl, show 40 - 16 = 24 from rfl, b32_w38, b32_w33, b32_w25, b32_w24]; decide +kernel
theorem b32_w41 : sch b32M 41 = 3652056697#32 := by rw [sch_hi _ (by omega), show 41 - 2 = 39 from rfl, show 41 - 7 = 34 from rfl, show 41 - 15 = 26 from rfl, show 41 - 16 = 25 from rfl, b32_w39, b32_w34, b32_w26, b32_w25]; decide +kernel
theorem b32_w42 : sch b32M 42 = 2442254673#32 := by rw [sch_hi _ (by omega), show 42 - 2 = 40 from rfl, show 42 - 7 = 35 from rfl, show 42 - 15 = 27 from rfl, show 42 - 16 = 26 from rfl, b32_w40, b32_w35, b32_w27, b32_w26]; decide +kernel
theorem b32_w43 : sch b32M 43 = 1341109036#32 := by rw [sch_hi _ (by omega), show 43 - 2 = 41 from rfl, show 43 - 7 = 36 from rfl, show 43 - 15 = 28 from rfl, show 43 - 16 = 27 from rfl, b32_w41, b32_w36, b32_w28, b32_w27]; decide +kernel
theorem b32_w44 : sch b32M 44 = 2340202783#32 := by rw [sch_hi _ (by omega), show 44 - 2 = 42 from rfl, show 44 - 7 = 37 from rfl, show 44 - 15 = 29 from rfl, show 44 - 16 = 28 from rfl, b32_w42, b32_w37, b32_w29, b32_w28]; decide +kernel
theorem b32_w45 : sch b32M 45 = 850561358#32 := by rw [sch_hi _ (by omega), show 45 - 2 = 43 from rfl, show 45 - 7 = 38 from rfl, show 45 - 15 = 30 from rfl, show 45 - 16 = 29 from rfl, b32_w43, b32_w38, b32_w30, b32_w29]; decide +kernel
theorem b32_w46 : sch b32M 46 = 1081452400#32 := by rw [sch_hi _ (by omega), show 46 - 2 = 44 from rfl, show 46 - 7 = 39 from rfl, show 46 - 15 = 31 from rfl, show 46 - 16 = 30 from rfl, b32_w44, b32_w39, b32_w31, b32_w30]; decide +kernel
theorem b32_w47 : sch b32M 47 = 114192056#32 := by rw [sch_hi _ (by omega), show 47 - 2 = 45 from rfl, show 47 - 7 = 40 from rfl, show 47 - 15 = 32 from rfl, show 47 - 16 = 31 from rfl, b32_w45, b32_w40, b32_w32, b32_w31]; decide +kernel
theorem b32_w48 : sch b32M 48 = 139733702#32 := by rw [sch_hi _ (by omega), show 48 - 2 = 46 from rfl, show 48 - 7 = 41 from rfl, show 48 - 15 = 33 from rfl, show 48 - 16 = 32 from rfl, b32_w46, b32_w41, b32_w33, b32_w32]; decide +kernel
theorem b32_w49 : sch b32M 49 = 138736613#32 := by rw [sch_hi _ (by omega), show 49 - 2 = 47 from rfl, show 49 - 7 = 42 from rfl, show 49 - 15 = 34 from rfl, show 49 - 16 = 33 from rfl, b32_w47, b32_w42, b32_w34, b32_w33]; decide +kernel
theorem b32_w50 : sch b32M 50 = 4181362727#32 := by rw [sch_hi _ (by omega), show 50 - 2 = 48 from rfl, show 50 - 7 = 43 from rfl, show 50 - 15 = 35 from rfl, show 50 - 16 = 34 from rfl, b32_w48, b32_w43, b32_w35, b32_w34]; decide +kernel
theorem b32_w51 : sch b32M 51 = 2185052134#32 := by rw [sch_hi _ (by omega), show 51 - 2 = 49 from rfl, show 51 - 7 = 44 from rfl, show 51 - 15 = 36 from rfl, show 51 - 16 = 35 from rfl, b32_w49, b32_w44, b32_w36, b32_w35]; decide +kernel
theorem b32_w52 : sch b32M 52 = 2055196616#32 := by rw [sch_hi _ (by omega), show 52 - 2 = 50 from rfl, show 52 - 7 = 45 from rfl, show 52 - 15 = 37 from rfl, show 52 - 16 = 36 from rfl, b32_w50, b32_w45, b32_w37, b32_w36]; decide +kernel
theorem b32_w53 : sch b32M 53 = 1271480023#32 := by rw [sch_hi _ (by omega), show 53 - 2 = 51 from rfl, show 53 - 7 = 46 from rfl, show 53 - 15 = 38 from rfl, show 53 - 16 = 37 from rfl, b32_w51, b32_w46, b32_w38, b32_w37]; decide +kernel
theorem b32_w54 : sch b32M 54 = 1942858395#32 := by rw [sch_hi _ (by omega), show 54 - 2 = 52 from rfl, show 54 - 7 = 47 from rfl, show 54 - 15 = 39 from rfl, show 54 - 16 = 38 from rfl, b32_w52, b32_w47, b32_w39, b32_w38]; decide +kernel
theorem b32_w55 : sch b32M 55 = 941374986#32 := by rw [sch_hi _ (by omega), show 55 - 2 = 53 from rfl, show 55 - 7 = 48 from rfl, show 55 - 15 = 40 from rfl, show 55 - 16 = 39 from rfl, b32_w53, b32_w48, b32_w40, b32_w39]; decide +kernel
theorem b32_w56 : sch b32M 56 = 1271827805#32 := by rw [sch_hi _ (by omega), show 56 - 2 = 54 from rfl, show 56 - 7 = 49 from rfl, show 56 - 15 = 41 from rfl, show 56 - 16 = 40 from rfl, b32_w54, b32_w49, b32_w41, b32_w40]; decide +kernel
theorem b32_w57 : sch b32M 57 = 855136158#32 := by rw [sch_hi _ (by omega), show 57 - 2 = 55 from rfl, show 57 - 7 = 50 from rfl, show 57 - 15 = 42 from rfl, show 57 - 16 = 41 from rfl, b32_w55, b32_w50, b32_w42, b32_w41]; decide +kernel
theorem b32_w58 : sch b32M 58 = 1754289004#32 := by rw [sch_hi _ (by omega), show 58 - 2 = 56 from rfl, show 58 - 7 = 51 from rfl, show 58 - 15 = 43 from rfl, show 58 - 16 = 42 from rfl, b32_w56, b32_w51, b32_w43, b32_w42]; decide +kernel
theorem b32_w59 : sch b32M 59 = 4024333016#32 := by rw [sch_hi _ (by omega), show 59 - 2 = 57 from rfl, show 59 - 7 = 52 from rfl, show 59 - 15 = 44 from rfl, show 59 - 16 = 43 from rfl, b32_w57, b32_w52, b32_w44, b32_w43]; decide +kernel
theorem b32_w60 : sch b32M 60 = 862469595#32 := by rw [sch_hi _ (by omega), show 60 - 2 = 58 from rfl, show 60 - 7 = 53 from rfl, show 60 - 15 = 45 from rfl, show 60 - 16 = 44 from rfl, b32_w58, b32_w53, b32_w45, b32_w44]; decide +kernel
theorem b32_w61 : sch b32M 61 = 517939502#32 := by rw [sch_hi _ (by omega), show 61 - 2 = 59 from rfl, show 61 - 7 = 54 from rfl, show 61 - 15 = 46 from rfl, show 61 - 16 = 45 from rfl, b32_w59, b32_w54, b32_w46, b32_w45]; decide +kernel
theorem b32_w62 : sch b32M 62 = 2103860233#32 := by rw [sch_hi _ (by omega), show 62 - 2 = 60 from rfl, show 62 - 7 = 55 from rfl, show 62 - 15 = 47 from rfl, show 62 - 16 = 46 from rfl, b32_w60, b32_w55, b32_w47, b32_w46]; decide +kernel
theorem b32_w63 : sch b32M 63 = 1325278889#32 := by rw [sch_hi _ (by omega), show 63 - 2 = 61 from rfl, show 63 - 7 = 56 from rfl, show 63 - 15 = 48 from rfl, show 63 - 16 = 47 from rfl, b32_w61, b32_w56, b32_w48, b32_w47]; decide +kernel
def b32V : V8 := ⟨1779033703#32, 3144134277#32, 1013904242#32, 2773480762#32, 1359893119#32, 2600822924#32, 528734635#32, 1541459225#32⟩
theorem b32_s0 : steps b32M b32V 0 = ⟨1779033703#32, 3144134277#32, 1013904242#32, 2773480762#32, 1359893119#32, 2600822924#32, 528734635#32, 1541459225#32⟩ := rfl
theorem b32_s1 : steps b32M b32V 1 = ⟨1141210616#32, 1779033703#32, 3144134277#32, 1013904242#32, 3770996813#32, 1359893119#32, 2600822924#32, 528734635#32⟩ := by
  have h1 : t1 ⟨1779033703#32, 3144134277#32, 1013904242#32, 2773480762#32, 1359893119#32, 2600822924#32, 528734635#32, 1541459225#32⟩ (kL.getD 0 0) 1207760299#32 = 997516051#32 := by decide +kernel
  have h2 : t2 ⟨1779033703#32, 3144134277#32, 1013904242#32, 2773480762#32, 1359893119#32, 2600822924#32, 528734635#32, 1541459225#32⟩ = 143694565#32 := by decide +kernel
  show step (steps b32M b32V 0) (kL.getD 0 0) (sch b32M 0) = _
  rw [b32_s0, b32_w0]
  unfold step
  rw [h1, h2]
  rfl
theorem b32_s2 : steps b32M b32V 2 = ⟨4114067810#32, 1141210616#32, 1779033703#32, 3144134277#32, 3698071466#32, 3770996813#32, 1359893119#32, 2600822924#32⟩ := by
  have h1 : t1 ⟨1141210616#32, 1779033703#32, 3144134277#32, 1013904242#32, 3770996813#32, 1359893119#32, 2600822924#32, 528734635#32⟩ (kL.getD 1 0) 1474914341#32 = 2684167224#32 := by decide +kernel
  have h2 : t2 ⟨1141210616#32, 1779033703#32, 3144134277#32, 1013904242#32, 3770996813#32, 1359893119#32, 2600822924#32, 528734635#32⟩ = 1429900586#32 := by decide +kernel
  show step (steps b32M b32V 1) (kL.getD 1 0) (sch b32M 1) = _
  rw [b32_s1, b32_w1]
  unfold step
  rw [h1, h2]
  rfl
theorem b32_s3 : steps b32M b32V 3 = ⟨2478461021#32, 4114067810#32, 1141210616#32, 1779033703#32, 41696079#32, 3698071466#32, 3770996813#32, 1359893119#32⟩ := by
  have h1 : t1 ⟨4114067810#32, 1141210616#32, 1779033703#32, 3144134277#32, 3698071466#32, 3770996813#32, 1359893119#32, 2600822924#32⟩ (kL.getD 2 0) 3437621088#32 = 1192529098#32 := by decide +kernel
  have h2 : t2 ⟨4114067810#32, 1141210616#32, 1779033703#32, 3144134277#32, 3698071466#32, 3770996813#32, 1359893119#32, 2600822924#32⟩ = 1285931923#32 := by decide +kernel
  show step (steps b32M b32V 2) (kL.getD 2 0) (sch b32M 2) = _
  rw [b32_s2, b32_w2]
  unfold step
  rw [h1, h2]
  rfl
theorem b32_s4 : steps b32M b32V 4 = ⟨3288202491#32, 2478461021#32, 4114067810#32, 1141210616#32, 1233973855#32, 41696079#32, 3698071466#32, 3770996813#32⟩ := by
  have h1 : t1 ⟨2478461021#32, 4114067810#32, 1141210616#32, 1779033703#32, 41696079#32, 3698071466#32, 3770996813#32, 1359893119#32⟩ (kL.getD 3 0) 1474163167#32 = 3749907448#32 := by decide +kernel
  have h2 : t2 ⟨2478461021#32, 4114067810#32, 1141210616#32, 1779033703#32, 41696079#32, 3698071466#32, 3770996813#32, 1359893119#32⟩ = 3833262339#32 := by decide +kernel
  show step (steps b32M b32V 3) (kL.getD 3 0) (sch b32M 3) = _
  rw [b32_s3, b32_w3]
  unfold step
  rw [h1, h2]
  rfl
theorem b32_s5 : steps b32M b32V 5 = ⟨1482723908#32, 3288202491#32, 2478461021#32, 4114067810#32, 3889401827#32, 1233973855#32, 41696079#32, 3698071466#32⟩ := by
  have h1 : t1 ⟨3288202491#32, 2478461021#32, 4114067810#32, 1141210616#32, 1233973855#32, 41696079#32, 3698071466#32, 3770996813#32⟩ (kL.getD 4 0) 76550497#32 = 2748191211#32 := by decide +kernel
  have h2 : t2 ⟨3288202491#32, 2478461021#32, 4114067810#32, 1141210616#32, 1233973855#32, 41696079#32, 3698071466#32, 3770996813#32⟩ = 3029499993#32 := by decide +kernel
  show step (steps b32M b32V 4) (kL.getD 4 0) (sch b32M 4) = _
  rw [b32_s4, b32_w4]
  unfold step
  rw [h1, h2]
  rfl
theorem b32_s6 : steps b32M b32V 6 = ⟨1721394473#32, 1482723908#32, 3288202491#32, 2478461021#32, 2170900282#32, 3889401827#32, 1233973855#32, 41696079#32⟩ := by
  have h1 : t1 ⟨1482723908#32, 3288202491#32, 2478461021#32, 4114067810#32, 3889401827#32, 1233973855#32, 41696079#32, 3698071466#32⟩ (kL.getD 5 0) 2046786609#32 = 2351799768#32 := by decide +kernel
  have h2 : t2 ⟨1482723908#32, 3288202491#32, 2478461021#32, 4114067810#32, 3889401827#32, 1233973855#32, 41696079#32, 3698071466#32⟩ = 3664562001#32 := by decide +kernel
  show step (steps b32M b32V 5) (kL.getD 5 0) (sch b32M 5) = _
  rw [b32_s5, b32_w5]
  unfold step
  rw [h1, h2]
  rfl
theorem b32_s7 : steps b32M b32V 7 = ⟨2228840844#32, 1721394473#32, 1482723908#32, 3288202491#32, 3156327805#32, 2170900282#32, 3889401827#32, 1233973855#32⟩ := by
  have h1 : t1 ⟨1721394473#32, 1482723908#32, 3288202491#32, 2478461021#32, 2170900282#32, 3889401827#32, 1233973855#32, 41696079#32⟩ (kL.getD 6 0) 166710001#32 = 677866784#32 := by decide +kernel
  have h2 : t2 ⟨1721394473#32, 1482723908#32, 3288202491#32, 2478461021#32, 2170900282#32, 3889401827#32, 1233973855#32, 41696079#32⟩ = 1550974060#32 := by decide +kernel
  show step (steps b32M b32V 6) (kL.getD 6 0) (sch b32M 6) = _
  rw [b32_s6, b32_w6]
  unfold step
  rw [h1, h2]
  rfl
theorem b32_s8 : steps b32M b32V 8 = ⟨548975916#32, 2228840844#32, 1721394473#32, 1482723908#32, 2531918432#32, 3156327805#32, 2170900282#32, 3889401827#32⟩ := by
  have h1 : t1 ⟨2228840844#32, 1721394473#32, 1482723908#32, 3288202491#32, 3156327805#32, 2170900282#32, 3889401827#32, 1233973855#32⟩ (kL.getD 7 0) 3501582427#32 = 3538683237#32 := by decide +kernel
  have h2 : t2 ⟨2228840844#32, 1721394473#32, 1482723908#32, 3288202491#32, 3156327805#32, 2170900282#32, 3889401827#32, 1233973855#32⟩ = 1305259975#32 := by decide +kernel
  show step (steps b32M b32V 7) (kL.getD 7 0) (sch b32M 7) = _
  rw [b32_s7, b32_w7]
  unfold step
  rw [h1, h2]
  rfl
theorem b32_s9 : steps b32M b32V 9 = ⟨4168927791#32, 548975916#32, 2228840844#32, 1721394473#32, 3903414075#32, 2531918432#32, 3156327805#32, 2170900282#32⟩ := by
  have h1 : t1 ⟨548975916#32, 2228840844#32, 1721394473#32, 1482723908#32, 2531918432#32, 3156327805#32, 2170900282#32, 3889401827#32⟩ (kL.getD 8 0) 2147483648#32 = 2420690167#32 := by decide +kernel
  have h2 : t2 ⟨548975916#32, 2228840844#32, 1721394473#32, 1482723908#32, 2531918432#32, 3156327805#32, 2170900282#32, 3889401827#32⟩ = 1748237624#32 := by decide +kernel
  show step (steps b32M b32V 8) (kL.getD 8 0) (sch b32M 8) = _
  rw [b32_s8, b32_w8]
  unfold step
  rw [h1, h2]
  rfl
theorem b32_s10 : steps b32M b32V 10 = ⟨2185409018#32, 4168927791#32, 548975916#32, 2228840844#32, 3952861035#32, 3903414075#32, 2531918432#32, 3156327805#32⟩ := by
  have h1 : t1 ⟨4168927791#32, 548975916#32, 2228840844#32, 1721394473#32, 3903414075#32, 2531918432#32, 3156327805#32, 2170900282#32⟩ (kL.getD 9 0) 0#32 = 2231466562#32 := by decide +kernel
  have h2 : t2 ⟨4168927791#32, 548975916#32, 2228840844#32, 1721394473#32, 3903414075#32, 2531918432#32, 3156327805#32, 2170900282#32⟩ = 4248909752#32 := by decide +kernel
  show step (steps b32M b32V 9) (kL.getD 9 0) (sch b32M 9) = _
  rw [b32_s9, b32_w9]
  unfold step
  rw [h1, h2]
  rfl
theorem b32_s11 : steps b32M b32V 11 = ⟨846549481#32, 2185409018#32, 4168927791#32, 548975916#32, 4048729573#32, 3952861035#32, 3903414075#32, 2531918432#32⟩ := by
  have h1 : t1 ⟨2185409018#32, 4168927791#32, 548975916#32, 2228840844#32, 3952861035#32, 3903414075#32, 2531918432#32, 3156327805#32⟩ (kL.getD 10 0) 0#32 = 1819888729#32 := by decide +kernel
  have h2 : t2 ⟨2185409018#32, 4168927791#32, 548975916#32, 2228840844#32, 3952861035#32, 3903414075#32, 2531918432#32, 3156327805#32⟩ = 3321628048#32 := by decide +kernel
  show step (steps b32M b32V 10) (kL.getD 10 0) (sch b32M 10) = _
  rw [b32_s10, b32_w10]
  unfold step
  rw [h1, h2]
  rfl
theorem b32_s12 : steps b32M b32V 12 = ⟨551298843#32, 846549481#32, 2185409018#32, 4168927791#32, 2022483779#32, 4048729573#32, 3952861035#32, 3903414075#32⟩ := by
  have h1 : t1 ⟨846549481#32, 2185409018#32, 4168927791#32, 548975916#32, 4048729573#32, 3952861035#32, 3903414075#32, 2531918432#32⟩ (kL.getD 11 0) 0#32 = 1473507863#32 := by decide +kernel
  have h2 : t2 ⟨846549481#32, 2185409018#32, 4168927791#32, 548975916#32, 4048729573#32, 3952861035#32, 3903414075#32, 2531918432#32⟩ = 3372758276#32 := by decide +kernel
  show step (steps b32M b32V 11) (kL.getD 11 0) (sch b32M 11) = _
  rw [b32_s11, b32_w11]
  unfold step
  rw [h1, h2]
  rfl
theorem b32_s13 : steps b32M b32V 13 = ⟨2501956204#32, 551298843#32, 846549481#32, 2185409018#32, 3939960572#32, 2022483779#32, 4048729573#32, 3952861035#32⟩ := by
  have h1 : t1 ⟨551298843#32, 846549481#32, 2185409018#32, 4168927791#32, 2022483779#32, 4048729573#32, 3952861035#32, 3903414075#32⟩ (kL.getD 12 0) 0#32 = 4066000077#32 := by decide +kernel
  have h2 : t2 ⟨551298843#32, 846549481#32, 2185409018#32, 4168927791#32, 2022483779#32, 4048729573#32, 3952861035#32, 3903414075#32⟩ = 2730923423#32 := by decide +kernel
  show step (steps b32M b32V 12) (kL.getD 12 0) (sch b32M 12) = _
  rw [b32_s12, b32_w12]
  unfold step
  rw [h1, h2]
  rfl
theorem b32_s14 : steps b32M b32V 14 = ⟨2475574378#32, 2501956204#32, 551298843#32, 846549481#32, 2952229682#32, 3939960572#32, 2022483779#32, 4048729573#32⟩ := by
  have h1 : t1 ⟨2501956204#32, 551298843#32, 846549481#32, 2185409018#32, 3939960572#32, 2022483779#32, 4048729573#32, 3952861035#32⟩ (kL.getD 13 0) 0#32 = 766820664#32 := by decide +kernel
  have h2 : t2 ⟨2501956204#32, 551298843#32, 846549481#32, 2185409018#32, 3939960572#32, 2022483779#32, 4048729573#32, 3952861035#32⟩ = 1708753714#32 := by decide +kernel
  show step (steps b32M b32V 13) (kL.getD 13 0) (sch b32M 13) = _
  rw [b32_s13, b32_w13]
  unfold step
  rw [h1, h2]
  rfl
theorem b32_s15 : steps b32M b32V 15 = ⟨798288642#32, 2475574378#32, 2501956204#32, 551298843#32, 299323227#32, 2952229682#32, 3939960572#32, 2022483779#32⟩ := by
  have h1 : t1 ⟨2475574378#32, 2501956204#32, 551298843#32, 846549481#32, 2952229682#32, 3939960572#32, 2022483779#32, 4048729573#32⟩ (kL.getD 14 0) 0#32 = 3747741042#32 := by decide +kernel
  have h2 : t2 ⟨2475574378#32, 2501956204#32, 551298843#32, 846549481#32, 2952229682#32, 3939960572#32, 2022483779#32, 4048729573#32⟩ = 1345514896#32 := by decide +kernel
  show step (steps b32M b32V 14) (kL.getD 14 0) (sch b32M 14) = _
  rw [b32_s14, b32_w14]
  unfold step
  rw [h1, h2]
  rfl
theorem b32_s16 : steps b32M b32V 16 = ⟨2858400012#32, 798288642#32, 2475574378#32, 2501956204#32, 3009335012#32, 299323227#32, 2952229682#32, 3939960572#32⟩ := by
  have h1 : t1 ⟨798288642#32, 2475574378#32, 2501956204#32, 551298843#32, 299323227#32, 2952229682#32, 3939960572#32, 2022483779#32⟩ (kL.getD 15 0) 256#32 = 2458036169#32 := by decide +kernel
  have h2 : t2 ⟨798288642#32, 2475574378#32, 2501956204#32, 551298843#32, 299323227#32, 2952229682#32, 3939960572#32, 2022483779#32⟩ = 400363843#32 := by decide +kernel
  show step (steps b32M b32V 15) (kL.getD 15 0) (sch b32M 15) = _
  rw [b32_s15, b32_w15]
  unfold step
  rw [h1, h2]
  rfl
theorem b32_s17 : steps b32M b32V 17 = ⟨2025089476#32, 2858400012#32, 798288642#32, 2475574378#32, 3323970831#32, 3009335012#32, 299323227#32, 2952229682#32⟩ := by
  have h1 : t1 ⟨2858400012#32, 798288642#32, 2475574378#32, 2501956204#32, 3009335012#32, 299323227#32, 2952229682#32, 3939960572#32⟩ (kL.getD 16 0) 1649975257#32 = 822014627#32 := by decide +kernel
  have h2 : t2 ⟨2858400012#32, 798288642#32, 2475574378#32, 2501956204#32, 3009335012#32, 299323227#32, 2952229682#32, 3939960572#32⟩ = 1203074849#32 := by decide +kernel
  show step (steps b32M b32V 16) (kL.getD 16 0) (sch b32M 16) = _
  rw [b32_s16, b32_w16]
  unfold step
  rw [h1, h2]
  rfl
theorem b32_s18 : steps b32M b32V 18 = ⟨1832659071#32, 2025089476#32, 2858400012#32, 798288642#32, 1418442165#32, 3323970831#32, 3009335012#32, 299323227#32⟩ := by
  have h1 : t1 ⟨2025089476#32, 2858400012#32, 798288642#32, 2475574378#32, 3323970831#32, 3009335012#32, 299323227#32, 2952229682#32⟩ (kL.getD 17 0) 4234587440#32 = 3237835083#32 := by decide +kernel
  have h2 : t2 ⟨2025089476#32, 2858400012#32, 798288642#32, 2475574378#32, 3323970831#32, 3009335012#32, 299323227#32, 2952229682#32⟩ = 2889791284#32 := by decide +kernel
  show step (steps b32M b32V 17) (kL.getD 17 0) (sch b32M 17) = _
  rw [b32_s17, b32_w17]
  unfold step
  rw [h1, h2]
  rfl
theorem b32_s19 : steps b32M b32V 19 = ⟨4035294165#32, 1832659071#32, 2025089476#32, 2858400012#32, 1338562369#32, 1418442165#32, 3323970831#32, 3009335012#32⟩ := by
  have h1 : t1 ⟨1832659071#32, 2025089476#32, 2858400012#32, 798288642#32, 1418442165#32, 3323970831#32, 3009335012#32, 299323227#32⟩ (kL.getD 18 0) 4044933839#32 = 540273727#32 := by decide +kernel
  have h2 : t2 ⟨1832659071#32, 2025089476#32, 2858400012#32, 798288642#32, 1418442165#32, 3323970831#32, 3009335012#32, 299323227#32⟩ = 3495020438#32 := by decide +kernel
  show step (steps b32M b32V 18) (kL.getD 18 0) (sch b32M 18) = _
  rw [b32_s18, b32_w18]
  unfold step
  rw [h1, h2]
  rfl
theorem b32_s20 : steps b32M b32V 20 = ⟨3022075563#32, 4035294165#32, 1832659071#32, 2025089476#32, 4052420296#32, 1338562369#32, 1418442165#32, 3323970831#32⟩ := by
  have h1 : t1 ⟨4035294165#32, 1832659071#32, 2025089476#32, 2858400012#32, 1338562369#32, 1418442165#32, 3323970831#32, 3009335012#32⟩ (kL.getD 19 0) 2711801117#32 = 1194020284#32 := by decide +kernel
  have h2 : t2 ⟨4035294165#32, 1832659071#32, 2025089476#32, 2858400012#32, 1338562369#32, 1418442165#32, 3323970831#32, 3009335012#32⟩ = 1828055279#32 := by decide +kernel
  show step (steps b32M b32V 19) (kL.getD 19 0) (sch b32M 19) = _
  rw [b32_s19, b32_w19]
  unfold step
  rw [h1, h2]
  rfl
theorem b32_s21 : steps b32M b32V 21 = ⟨2096380007#32, 3022075563#32, 4035294165#32, 1832659071#32, 619982009#32, 4052420296#32, 1338562369#32, 1418442165#32⟩ := by
  have h1 : t1 ⟨3022075563#32, 4035294165#32, 1832659071#32, 2025089476#32, 4052420296#32, 1338562369#32, 1418442165#32, 3323970831#32⟩ (kL.getD 20 0) 861053183#32 = 2889859829#32 := by decide +kernel
  have h2 : t2 ⟨3022075563#32, 4035294165#32, 1832659071#32, 2025089476#32, 4052420296#32, 1338562369#32, 1418442165#32, 3323970831#32⟩ = 3501487474#32 := by decide +kernel
  show step (steps b32M b32V 20) (kL.getD 20 0) (sch b32M 20) = _
  rw [b32_s20, b32_w20]
  unfold step
  rw [h1, h2]
  rfl
theorem b32_s22 : steps b32M b32V 22 = ⟨2689448245#32, 2096380007#32, 3022075563#32, 4035294165#32, 1274886786#32, 619982009#32, 4052420296#32, 1338562369#32⟩ := by
  have h1 : t1 ⟨2096380007#32, 3022075563#32, 4035294165#32, 1832659071#32, 619982009#32, 4052420296#32, 1338562369#32, 1418442165#32⟩ (kL.getD 21 0) 3398888759#32 = 3737195011#32 := by decide +kernel
  have h2 : t2 ⟨2096380007#32, 3022075563#32, 4035294165#32, 1832659071#32, 619982009#32, 4052420296#32, 1338562369#32, 1418442165#32⟩ = 3247220530#32 := by decide +kernel
  show step (steps b32M b32V 21) (kL.getD 21 0) (sch b32M 21) = _
  rw [b32_s21, b32_w21]
  unfold step
  rw [h1, h2]
  rfl
theorem b32_s23 : steps b32M b32V 23 = ⟨925435239#32, 2689448245#32, 2096380007#32, 3022075563#32, 3689858676#32, 1274886786#32, 619982009#32, 4052420296#32⟩ := by
  have h1 : t1 ⟨2689448245#32, 2096380007#32, 3022075563#32, 4035294165#32, 1274886786#32, 619982009#32, 4052420296#32, 1338562369#32⟩ (kL.getD 22 0) 3858602578#32 = 3949531807#32 := by decide +kernel
  have h2 : t2 ⟨2689448245#32, 2096380007#32, 3022075563#32, 4035294165#32, 1274886786#32, 619982009#32, 4052420296#32, 1338562369#32⟩ = 1270870728#32 := by decide +kernel
  show step (steps b32M b32V 22) (kL.getD 22 0) (sch b32M 22) = _
  rw [b32_s22, b32_w22]
  unfold step
  rw [h1, h2]
  rfl
theorem b32_s24 : steps b32M b32V 24 = ⟨696956641#32, 925435239#32, 2689448245#32, 2096380007#32, 1717063512#32, 3689858676#32, 1274886786#32, 619982009#32⟩ := by
  have h1 : t1 ⟨925435239#32, 2689448245#32, 2096380007#32, 3022075563#32, 3689858676#32, 1274886786#32, 619982009#32, 4052420296#32⟩ (kL.getD 23 0) 4011745750#32 = 2989955245#32 := by decide +kernel
  have h2 : t2 ⟨925435239#32, 2689448245#32, 2096380007#32, 3022075563#32, 3689858676#32, 1274886786#32, 619982009#32, 4052420296#32⟩ = 2001968692#32 := by decide +kernel
  show step (steps b32M b32V 23) (kL.getD 23 0) (sch b32M 23) = _
  rw [b32_s23, b32_w23]
  unfold step
  rw [h1, h2]
  rfl
theorem b32_s25 : steps b32M b32V 25 = ⟨2739737579#32, 696956641#32, 925435239#32, 2689448245#32, 663171490#32, 1717063512#32, 3689858676#32, 1274886786#32⟩ := by
  have h1 : t1 ⟨696956641#32, 925435239#32, 2689448245#32, 2096380007#32, 1717063512#32, 3689858676#32, 1274886786#32, 619982009#32⟩ (kL.getD 24 0) 4206952023#32 = 2861758779#32 := by decide +kernel
  have h2 : t2 ⟨696956641#32, 925435239#32, 2689448245#32, 2096380007#32, 1717063512#32, 3689858676#32, 1274886786#32, 619982009#32⟩ = 4172946096#32 := by decide +kernel
  show step (steps b32M b32V 24) (kL.getD 24 0) (sch b32M 24) = _
  rw [b32_s24, b32_w24]
  unfold step
  rw [h1, h2]
  rfl
theorem b32_s26 : steps b32M b32V 26 = ⟨3332916795#32, 2739737579#32, 696956641#32, 925435239#32, 2815854#32, 663171490#32, 1717063512#32, 3689858676#32⟩ := by
  have h1 : t1 ⟨2739737579#32, 696956641#32, 925435239#32, 2689448245#32, 663171490#32, 1717063512#32, 3689858676#32, 1274886786#32⟩ (kL.getD 25 0) 3993188547#32 = 1608334905#32 := by decide +kernel
  have h2 : t2 ⟨2739737579#32, 696956641#32, 925435239#32, 2689448245#32, 663171490#32, 1717063512#32, 3689858676#32, 1274886786#32⟩ = 1724581890#32 := by decide +kernel
  show step (steps b32M b32V 25) (kL.getD 25 0) (sch b32M 25) = _
  rw [b32_s25, b32_w25]
  unfold step
  rw [h1, h2]
  rfl
theorem b32_s27 : steps b32M b32V 27 = ⟨980853462#32, 3332916795#32, 2739737579#32, 696956641#32, 1823131004#32, 2815854#32, 663171490#32, 1717063512#32⟩ := by
  have h1 : t1 ⟨3332916795#32, 2739737579#32, 696956641#32, 925435239#32, 2815854#32, 663171490#32, 1717063512#32, 3689858676#32⟩ (kL.getD 26 0) 42106660#32 = 897695765#32 := by decide +kernel
  have h2 : t2 ⟨3332916795#32, 2739737579#32, 696956641#32, 925435239#32, 2815854#32, 663171490#32, 1717063512#32, 3689858676#32⟩ = 83157697#32 := by decide +kernel
  show step (steps b32M b32V 26) (kL.getD 26 0) (sch b32M 26) = _
  rw [b32_s26, b32_w26]
  unfold step
  rw [h1, h2]
  rfl
theorem b32_s28 : steps b32M b32V 28 = ⟨1206327162#32, 980853462#32, 3332916795#32, 2739737579#32, 2355013495#32, 1823131004#32, 2815854#32, 663171490#32⟩ := by
  have h1 : t1 ⟨980853462#32, 3332916795#32, 2739737579#32, 696956641#32, 1823131004#32, 2815854#32, 663171490#32, 1717063512#32⟩ (kL.getD 27 0) 781495054#32 = 1658056854#32 := by decide +kernel
  have h2 : t2 ⟨980853462#32, 3332916795#32, 2739737579#32, 696956641#32, 1823131004#32, 2815854#32, 663171490#32, 1717063512#32⟩ = 3843237604#32 := by decide +kernel
  show step (steps b32M b32V 27) (kL.getD 27 0) (sch b32M 27) = _
  rw [b32_s27, b32_w27]
  unfold step
  rw [h1, h2]
  rfl
theorem b32_s29 : steps b32M b32V 29 = ⟨1385072344#32, 1206327162#32, 980853462#32, 3332916795#32, 4169105488#32, 2355013495#32, 1823131004#32, 2815854#32⟩ := by
  have h1 : t1 ⟨1206327162#32, 980853462#32, 3332916795#32, 2739737579#32, 2355013495#32, 1823131004#32, 2815854#32, 663171490#32⟩ (kL.getD 28 0) 990711493#32 = 1429367909#32 := by decide +kernel
  have h2 : t2 ⟨1206327162#32, 980853462#32, 3332916795#32, 2739737579#32, 2355013495#32, 1823131004#32, 2815854#32, 663171490#32⟩ = 4250671731#32 := by decide +kernel
  show step (steps b32M b32V 28) (kL.getD 28 0) (sch b32M 28) = _
  rw [b32_s28, b32_w28]
  unfold step
  rw [h1, h2]
  rfl
theorem b32_s30 : steps b32M b32V 30 = ⟨3946583332#32, 1385072344#32, 1206327162#32, 980853462#32, 1183023101#32, 4169105488#32, 2355013495#32, 1823131004#32⟩ := by
  have h1 : t1 ⟨1385072344#32, 1206327162#32, 980853462#32, 3332916795#32, 4169105488#32, 2355013495#32, 1823131004#32, 2815854#32⟩ (kL.getD 29 0) 2800423428#32 = 2145073602#32 := by decide +kernel
  have h2 : t2 ⟨1385072344#32, 1206327162#32, 980853462#32, 3332916795#32, 4169105488#32, 2355013495#32, 1823131004#32, 2815854#32⟩ = 1801509730#32 := by decide +kernel
  show step (steps b32M b32V 29) (kL.getD 29 0) (sch b32M 29) = _
  rw [b32_s29, b32_w29]
  unfold step
  rw [h1, h2]
  rfl
theorem b32_s31 : steps b32M b32V 31 = ⟨1147145835#32, 3946583332#32, 1385072344#32, 1206327162#32, 3614165700#32, 1183023101#32, 4169105488#32, 2355013495#32⟩ := by
  have h1 : t1 ⟨3946583332#32, 1385072344#32, 1206327162#32, 980853462#32, 1183023101#32, 4169105488#32, 2355013495#32, 1823131004#32⟩ (kL.getD 30 0) 370367388#32 = 2633312238#32 := by decide +kernel
  have h2 : t2 ⟨3946583332#32, 1385072344#32, 1206327162#32, 980853462#32, 1183023101#32, 4169105488#32, 2355013495#32, 1823131004#32⟩ = 2808800893#32 := by decide +kernel
  show step (steps b32M b32V 30) (kL.getD 30 0) (sch b32M 30) = _
  rw [b32_s30, b32_w30]
  unfold step
  rw [h1, h2]
  rfl
theorem b32_s32 : steps b32M b32V 32 = ⟨4044310259#32, 1147145835#32, 3946583332#32, 1385072344#32, 3561933434#32, 3614165700#32, 1183023101#32, 4169105488#32⟩ := by
  have h1 : t1 ⟨1147145835#32, 3946583332#32, 1385072344#32, 1206327162#32, 3614165700#32, 1183023101#32, 4169105488#32, 2355013495#32⟩ (kL.getD 31 0) 2141615893#32 = 2355606272#32 := by decide +kernel
  have h2 : t2 ⟨1147145835#32, 3946583332#32, 1385072344#32, 1206327162#32, 3614165700#32, 1183023101#32, 4169105488#32, 2355013495#32⟩ = 1688703987#32 := by decide +kernel
  show step (steps b32M b32V 31) (kL.getD 31 0) (sch b32M 31) = _
  rw [b32_s31, b32_w31]
  unfold step
  rw [h1, h2]
  rfl
theorem b32_s33 : steps b32M b32V 33 = ⟨1051771959#32, 4044310259#32, 1147145835#32, 3946583332#32, 3108744874#32, 3561933434#32, 3614165700#32, 1183023101#32⟩ := by
  have h1 : t1 ⟨4044310259#32, 1147145835#32, 3946583332#32, 1385072344#32, 3561933434#32, 3614165700#32, 1183023101#32, 4169105488#32⟩ (kL.getD 32 0) 3964407198#32 = 1723672530#32 := by decide +kernel
  have h2 : t2 ⟨4044310259#32, 1147145835#32, 3946583332#32, 1385072344#32, 3561933434#32, 3614165700#32, 1183023101#32, 4169105488#32⟩ = 3623066725#32 := by decide +kernel
  show step (steps b32M b32V 32) (kL.getD 32 0) (sch b32M 32) = _
  rw [b32_s32, b32_w32]
  unfold step
  rw [h1, h2]
  rfl
theorem b32_s34 : steps b32M b32V 34 = ⟨1852315570#32, 1051771959#32, 4044310259#32, 1147145835#32, 3095318002#32, 3108744874#32, 3561933434#32, 3614165700#32⟩ := by
  have h1 : t1 ⟨1051771959#32, 4044310259#32, 1147145835#32, 3946583332#32, 3108744874#32, 3561933434#32, 3614165700#32, 1183023101#32⟩ (kL.getD 33 0) 2815687320#32 = 3443701966#32 := by decide +kernel
  have h2 : t2 ⟨1051771959#32, 4044310259#32, 1147145835#32, 3946583332#32, 3108744874#32, 3561933434#32, 3614165700#32, 1183023101#32⟩ = 2703580900#32 := by decide +kernel
  show step (steps b32M b32V 33) (kL.getD 33 0) (sch b32M 33) = _
  rw [b32_s33, b32_w33]
  unfold step
  rw [h1, h2]
  rfl
theorem b32_s35 : steps b32M b32V 35 = ⟨3025698238#32, 1852315570#32, 1051771959#32, 4044310259#32, 4097345121#32, 3095318002#32, 3108744874#32, 3561933434#32⟩ := by
  have h1 : t1 ⟨1852315570#32, 1051771959#32, 4044310259#32, 1147145835#32, 3095318002#32, 3108744874#32, 3561933434#32, 3614165700#32⟩ (kL.getD 34 0) 1126539994#32 = 2950199286#32 := by decide +kernel
  have h2 : t2 ⟨1852315570#32, 1051771959#32, 4044310259#32, 1147145835#32, 3095318002#32, 3108744874#32, 3561933434#32, 3614165700#32⟩ = 75498952#32 := by decide +kernel
  show step (steps b32M b32V 34) (kL.getD 34 0) (sch b32M 34) = _
  rw [b32_s34, b32_w34]
  unfold step
  rw [h1, h2]
  rfl
theorem b32_s36 : steps b32M b32V 36 = ⟨1196901622#32, 3025698238#32, 1852315570#32, 1051771959#32, 3638095542#32, 4097345121#32, 3095318002#32, 3108744874#32⟩ := by
  have h1 : t1 ⟨3025698238#32, 1852315570#32, 1051771959#32, 4044310259#32, 4097345121#32, 3095318002#32, 3108744874#32, 3561933434#32⟩ (kL.getD 35 0) 2937703769#32 = 3888752579#32 := by decide +kernel
  have h2 : t2 ⟨3025698238#32, 1852315570#32, 1051771959#32, 4044310259#32, 4097345121#32, 3095318002#32, 3108744874#32, 3561933434#32⟩ = 1603116339#32 := by decide +kernel
  show step (steps b32M b32V 35) (kL.getD 35 0) (sch b32M 35) = _
  rw [b32_s35, b32_w35]
  unfold step
  rw [h1, h2]
  rfl
theorem b32_s37 : steps b32M b32V 37 = ⟨3474893811#32, 1196901622#32, 3025698238#32, 1852315570#32, 3154307034#32, 3638095542#32, 4097345121#32, 3095318002#32⟩ := by
  have h1 : t1 ⟨1196901622#32, 3025698238#32, 1852315570#32, 1051771959#32, 3638095542#32, 4097345121#32, 3095318002#32, 3108744874#32⟩ (kL.getD 36 0) 216946298#32 = 2102535075#32 := by decide +kernel
  have h2 : t2 ⟨1196901622#32, 3025698238#32, 1852315570#32, 1051771959#32, 3638095542#32, 4097345121#32, 3095318002#32, 3108744874#32⟩ = 1372358736#32 := by decide +kernel
  show step (steps b32M b32V 36) (kL.getD 36 0) (sch b32M 36) = _
  rw [b32_s36, b32_w36]
  unfold step
  rw [h1, h2]
  rfl
theorem b32_s38 : steps b32M b32V 38 = ⟨3590459160#32, 3474893811#32, 1196901622#32, 3025698238#32, 2786433951#32, 3154307034#32, 3638095542#32, 4097345121#32⟩ := by
  have h1 : t1 ⟨3474893811#32, 1196901622#32, 3025698238#32, 1852315570#32, 3154307034#32, 3638095542#32, 4097345121#32, 3095318002#32⟩ (kL.getD 37 0) 2679594480#32 = 934118381#32 := by decide +kernel
  have h2 : t2 ⟨3474893811#32, 1196901622#32, 3025698238#32, 1852315570#32, 3154307034#32, 3638095542#32, 4097345121#32, 3095318002#32⟩ = 2656340779#32 := by decide +kernel
  show step (steps b32M b32V 37) (kL.getD 37 0) (sch b32M 37) = _
  rw [b32_s37, b32_w37]
  unfold step
  rw [h1, h2]
  rfl
theorem b32_s39 : steps b32M b32V 39 = ⟨4141075451#32, 3590459160#32, 3474893811#32, 1196901622#32, 2661017913#32, 2786433951#32, 3154307034#32, 3638095542#32⟩ := by
  have h1 : t1 ⟨3590459160#32, 3474893811#32, 1196901622#32, 3025698238#32, 2786433951#32, 3154307034#32, 3638095542#32, 4097345121#32⟩ (kL.getD 38 0) 1876810020#32 = 3930286971#32 := by decide +kernel
  have h2 : t2 ⟨3590459160#32, 3474893811#32, 1196901622#32, 3025698238#32, 2786433951#32, 3154307034#32, 3638095542#32, 4097345121#32⟩ = 210788480#32 := by decide +kernel
  show step (steps b32M b32V 38) (kL.getD 38 0) (sch b32M 38) = _
  rw [b32_s38, b32_w38]
  unfold step
  rw [h1, h2]
  rfl
theorem b32_s40 : steps b32M b32V 40 = ⟨292914390#32, 4141075451#32, 3590459160#32, 3474893811#32, 2507510294#32, 2661017913#32, 2786433951#32, 3154307034#32⟩ := by
  have h1 : t1 ⟨4141075451#32, 3590459160#32, 3474893811#32, 1196901622#32, 2661017913#32, 2786433951#32, 3154307034#32, 3638095542#32⟩ (kL.getD 39 0) 2953085428#32 = 1310608672#32 := by decide +kernel
  have h2 : t2 ⟨4141075451#32, 3590459160#32, 3474893811#32, 1196901622#32, 2661017913#32, 2786433951#32, 3154307034#32, 3638095542#32⟩ = 3277273014#32 := by decide +kernel
  show step (steps b32M b32V 39) (kL.getD 39 0) (sch b32M 39) = _
  rw [b32_s39, b32_w39]
  unfold step
  rw [h1, h2]
  rfl
theorem b32_s41 : steps b32M b32V 41 = ⟨1357115829#32, 292914390#32, 4141075451#32, 3590459160#32, 3568327410#32, 2507510294#32, 2661017913#32, 2786433951#32⟩ := by
  have h1 : t1 ⟨292914390#32, 4141075451#32, 3590459160#32, 3474893811#32, 2507510294#32, 2661017913#32, 2786433951#32, 3154307034#32⟩ (kL.getD 40 0) 1315889467#32 = 93433599#32 := by decide +kernel
  have h2 : t2 ⟨292914390#32, 4141075451#32, 3590459160#32, 3474893811#32, 2507510294#32, 2661017913#32, 2786433951#32, 3154307034#32⟩ = 1263682230#32 := by decide +kernel
  show step (steps b32M b32V 40) (kL.getD 40 0) (sch b32M 40) = _
  rw [b32_s40, b32_w40]
  unfold step
  rw [h1, h2]
  rfl
theorem b32_s42 : steps b32M b32V 42 = ⟨981944752#32, 1357115829#32, 292914390#32, 4141075451#32, 1765861536#32, 3568327410#32, 2507510294#32, 2661017913#32⟩ := by
  have h1 : t1 ⟨1357115829#32, 292914390#32, 4141075451#32, 3590459160#32, 3568327410#32, 2507510294#32, 2661017913#32, 2786433951#32⟩ (kL.getD 41 0) 3652056697#32 = 2470369672#32 := by decide +kernel
  have h2 : t2 ⟨1357115829#32, 292914390#32, 4141075451#32, 3590459160#32, 3568327410#32, 2507510294#32, 2661017913#32, 2786433951#32⟩ = 2806542376#32 := by decide +kernel
  show step (steps b32M b32V 41) (kL.getD 41 0) (sch b32M 41) = _
  rw [b32_s41, b32_w41]
  unfold step
  rw [h1, h2]
  rfl
theorem b32_s43 : steps b32M b32V 43 = ⟨1803136171#32, 981944752#32, 1357115829#32, 292914390#32, 4083085366#32, 1765861536#32, 3568327410#32, 2507510294#32⟩ := by
  have h1 : t1 ⟨981944752#32, 1357115829#32, 292914390#32, 4141075451#32, 1765861536#32, 3568327410#32, 2507510294#32, 2661017913#32⟩ (kL.getD 42 0) 2442254673#32 = 4236977211#32 := by decide +kernel
  have h2 : t2 ⟨981944752#32, 1357115829#32, 292914390#32, 4141075451#32, 1765861536#32, 3568327410#32, 2507510294#32, 2661017913#32⟩ = 1861126256#32 := by decide +kernel
  show step (steps b32M b32V 42) (kL.getD 42 0) (sch b32M 42) = _
  rw [b32_s42, b32_w42]
  unfold step
  rw [h1, h2]
  rfl
theorem b32_s44 : steps b32M b32V 44 = ⟨1496912935#32, 1803136171#32, 981944752#32, 1357115829#32, 2526220802#32, 4083085366#32, 1765861536#32, 3568327410#32⟩ := by
  have h1 : t1 ⟨1803136171#32, 981944752#32, 1357115829#32, 292914390#32, 4083085366#32, 1765861536#32, 3568327410#32, 2507510294#32⟩ (kL.getD 43 0) 1341109036#32 = 2233306412#32 := by decide +kernel
  have h2 : t2 ⟨1803136171#32, 981944752#32, 1357115829#32, 292914390#32, 4083085366#32, 1765861536#32, 3568327410#32, 2507510294#32⟩ = 3558573819#32 := by decide +kernel
  show step (steps b32M b32V 43) (kL.getD 43 0) (sch b32M 43) = _
  rw [b32_s43, b32_w43]
  unfold step
  rw [h1, h2]
  rfl
theorem b32_s45 : steps b32M b32V 45 = ⟨1056023157#32, 1496912935#32, 1803136171#32, 981944752#32, 2172155362#32, 2526220802#32, 4083085366#32, 1765861536#32⟩ := by
  have h1 : t1 ⟨1496912935#32, 1803136171#32, 981944752#32, 1357115829#32, 2526220802#32, 4083085366#32, 1765861536#32, 3568327410#32⟩ (kL.getD 44 0) 2340202783#32 = 815039533#32 := by decide +kernel
  have h2 : t2 ⟨1496912935#32, 1803136171#32, 981944752#32, 1357115829#32, 2526220802#32, 4083085366#32, 1765861536#32, 3568327410#32⟩ = 240983624#32 := by decide +kernel
  show step (steps b32M b32V 44) (kL.getD 44 0) (sch b32M 44) = _
  rw [b32_s44, b32_w44]
  unfold step
  rw [h1, h2]
  rfl
theorem b32_s46 : steps b32M b32V 46 = ⟨86521811#32, 1056023157#32, 1496912935#32, 1803136171#32, 697930097#32, 2172155362#32, 2526220802#32, 4083085366#32⟩ := by
  have h1 : t1 ⟨1056023157#32, 1496912935#32, 1803136171#32, 981944752#32, 2172155362#32, 2526220802#32, 4083085366#32, 1765861536#32⟩ (kL.getD 45 0) 850561358#32 = 4010952641#32 := by decide +kernel
  have h2 : t2 ⟨1056023157#32, 1496912935#32, 1803136171#32, 981944752#32, 2172155362#32, 2526220802#32, 4083085366#32, 1765861536#32⟩ = 370536466#32 := by decide +kernel
  show step (steps b32M b32V 45) (kL.getD 45 0) (sch b32M 45) = _
  rw [b32_s45, b32_w45]
  unfold step
  rw [h1, h2]
  rfl
theorem b32_s47 : steps b32M b32V 47 = ⟨3784273288#32, 86521811#32, 1056023157#32, 1496912935#32, 1354922779#32, 697930097#32, 2172155362#32, 2526220802#32⟩ := by
  have h1 : t1 ⟨86521811#32, 1056023157#32, 1496912935#32, 1803136171#32, 697930097#32, 2172155362#32, 2526220802#32, 4083085366#32⟩ (kL.getD 46 0) 1081452400#32 = 3846753904#32 := by decide +kernel
  have h2 : t2 ⟨86521811#32, 1056023157#32, 1496912935#32, 1803136171#32, 697930097#32, 2172155362#32, 2526220802#32, 4083085366#32⟩ = 4232486680#32 := by decide +kernel
  show step (steps b32M b32V 46) (kL.getD 46 0) (sch b32M 46) = _
  rw [b32_s46, b32_w46]
  unfold step
  rw [h1, h2]
  rfl
theorem b32_s48 : steps b32M b32V 48 = ⟨768929686#32, 3784273288#32, 86521811#32, 1056023157#32, 4157728589#32, 1354922779#32, 697930097#32, 2172155362#32⟩ := by
  have h1 : t1 ⟨3784273288#32, 86521811#32, 1056023157#32, 1496912935#32, 1354922779#32, 697930097#32, 2172155362#32, 2526220802#32⟩ (kL.getD 47 0) 114192056#32 = 2660815654#32 := by decide +kernel
  have h2 : t2 ⟨3784273288#32, 86521811#32, 1056023157#32, 1496912935#32, 1354922779#32, 697930097#32, 2172155362#32, 2526220802#32⟩ = 2403081328#32 := by decide +kernel
  show step (steps b32M b32V 47) (kL.getD 47 0) (sch b32M 47) = _
  rw [b32_s47, b32_w47]
  unfold step
  rw [h1, h2]
  rfl
theorem b32_s49 : steps b32M b32V 49 = ⟨4241649112#32, 768929686#32, 3784273288#32, 86521811#32, 1908249286#32, 4157728589#32, 1354922779#32, 697930097#32⟩ := by
  have h1 : t1 ⟨768929686#32, 3784273288#32, 86521811#32, 1056023157#32, 4157728589#32, 1354922779#32, 697930097#32, 2172155362#32⟩ (kL.getD 48 0) 139733702#32 = 852226129#32 := by decide +kernel
  have h2 : t2 ⟨768929686#32, 3784273288#32, 86521811#32, 1056023157#32, 4157728589#32, 1354922779#32, 697930097#32, 2172155362#32⟩ = 3389422983#32 := by decide +kernel
  show step (steps b32M b32V 48) (kL.getD 48 0) (sch b32M 48) = _
  rw [b32_s48, b32_w48]
  unfold step
  rw [h1, h2]
  rfl
theorem b32_s50 : steps b32M b32V 50 = ⟨1741032234#32, 4241649112#32, 768929686#32, 3784273288#32, 1725151055#32, 1908249286#32, 4157728589#32, 1354922779#32⟩ := by
  have h1 : t1 ⟨4241649112#32, 768929686#32, 3784273288#32, 86521811#32, 1908249286#32, 4157728589#32, 1354922779#32, 697930097#32⟩ (kL.getD 49 0) 138736613#32 = 1638629244#32 := by decide +kernel
  have h2 : t2 ⟨4241649112#32, 768929686#32, 3784273288#32, 86521811#32, 1908249286#32, 4157728589#32, 1354922779#32, 697930097#32⟩ = 102402990#32 := by decide +kernel
  show step (steps b32M b32V 49) (kL.getD 49 0) (sch b32M 49) = _
  rw [b32_s49, b32_w49]
  unfold step
  rw [h1, h2]
  rfl
theorem b32_s51 : steps b32M b32V 51 = ⟨1726481643#32, 1741032234#32, 4241649112#32, 768929686#32, 34794868#32, 1725151055#32, 1908249286#32, 4157728589#32⟩ := by
  have h1 : t1 ⟨1741032234#32, 4241649112#32, 768929686#32, 3784273288#32, 1725151055#32, 1908249286#32, 4157728589#32, 1354922779#32⟩ (kL.getD 50 0) 4181362727#32 = 545488876#32 := by decide +kernel
  have h2 : t2 ⟨1741032234#32, 4241649112#32, 768929686#32, 3784273288#32, 1725151055#32, 1908249286#32, 4157728589#32, 1354922779#32⟩ = 1180992767#32 := by decide +kernel
  show step (steps b32M b32V 50) (kL.getD 50 0) (sch b32M 50) = _
  rw [b32_s50, b32_w50]
  unfold step
  rw [h1, h2]
  rfl
theorem b32_s52 : steps b32M b32V 52 = ⟨1613953378#32, 1726481643#32, 1741032234#32, 4241649112#32, 3360898861#32, 34794868#32, 1725151055#32, 1908249286#32⟩ := by
  have h1 : t1 ⟨1726481643#32, 1741032234#32, 4241649112#32, 768929686#32, 34794868#32, 1725151055#32, 1908249286#32, 4157728589#32⟩ (kL.getD 51 0) 2185052134#32 = 2591969175#32 := by decide +kernel
  have h2 : t2 ⟨1726481643#32, 1741032234#32, 4241649112#32, 768929686#32, 34794868#32, 1725151055#32, 1908249286#32, 4157728589#32⟩ = 3316951499#32 := by decide +kernel
  show step (steps b32M b32V 51) (kL.getD 51 0) (sch b32M 51) = _
  rw [b32_s51, b32_w51]
  unfold step
  rw [h1, h2]
  rfl
theorem b32_s53 : steps b32M b32V 53 = ⟨3335531743#32, 1613953378#32, 1726481643#32, 1741032234#32, 3284556542#32, 3360898861#32, 34794868#32, 1725151055#32⟩ := by
  have h1 : t1 ⟨1613953378#32, 1726481643#32, 1741032234#32, 4241649112#32, 3360898861#32, 34794868#32, 1725151055#32, 1908249286#32⟩ (kL.getD 52 0) 2055196616#32 = 3337874726#32 := by decide +kernel
  have h2 : t2 ⟨1613953378#32, 1726481643#32, 1741032234#32, 4241649112#32, 3360898861#32, 34794868#32, 1725151055#32, 1908249286#32⟩ = 4292624313#32 := by decide +kernel
  show step (steps b32M b32V 52) (kL.getD 52 0) (sch b32M 52) = _
  rw [b32_s52, b32_w52]
  unfold step
  rw [h1, h2]
  rfl
theorem b32_s54 : steps b32M b32V 54 = ⟨1219227125#32, 3335531743#32, 1613953378#32, 1726481643#32, 1904773511#32, 3284556542#32, 3360898861#32, 34794868#32⟩ := by
  have h1 : t1 ⟨3335531743#32, 1613953378#32, 1726481643#32, 1741032234#32, 3284556542#32, 3360898861#32, 34794868#32, 1725151055#32⟩ (kL.getD 53 0) 1271480023#32 = 163741277#32 := by decide +kernel
  have h2 : t2 ⟨3335531743#32, 1613953378#32, 1726481643#32, 1741032234#32, 3284556542#32, 3360898861#32, 34794868#32, 1725151055#32⟩ = 1055485848#32 := by decide +kernel
  show step (steps b32M b32V 53) (kL.getD 53 0) (sch b32M 53) = _
  rw [b32_s53, b32_w53]
  unfold step
  rw [h1, h2]
  rfl
theorem b32_s55 : steps b32M b32V 55 = ⟨1470614162#32, 1219227125#32, 3335531743#32, 1613953378#32, 3953489542#32, 1904773511#32, 3284556542#32, 3360898861#32⟩ := by
  have h1 : t1 ⟨1219227125#32, 3335531743#32, 1613953378#32, 1726481643#32, 1904773511#32, 3284556542#32, 3360898861#32, 34794868#32⟩ (kL.getD 54 0) 1942858395#32 = 2227007899#32 := by decide +kernel
  have h2 : t2 ⟨1219227125#32, 3335531743#32, 1613953378#32, 1726481643#32, 1904773511#32, 3284556542#32, 3360898861#32, 34794868#32⟩ = 3538573559#32 := by decide +kernel
  show step (steps b32M b32V 54) (kL.getD 54 0) (sch b32M 54) = _
  rw [b32_s54, b32_w54]
  unfold step
  rw [h1, h2]
  rfl
theorem b32_s56 : steps b32M b32V 56 = ⟨2300414916#32, 1470614162#32, 1219227125#32, 3335531743#32, 1146851723#32, 3953489542#32, 1904773511#32, 3284556542#32⟩ := by
  have h1 : t1 ⟨1470614162#32, 1219227125#32, 3335531743#32, 1613953378#32, 3953489542#32, 1904773511#32, 3284556542#32, 3360898861#32⟩ (kL.getD 55 0) 941374986#32 = 3827865641#32 := by decide +kernel
  have h2 : t2 ⟨1470614162#32, 1219227125#32, 3335531743#32, 1613953378#32, 3953489542#32, 1904773511#32, 3284556542#32, 3360898861#32⟩ = 2767516571#32 := by decide +kernel
  show step (steps b32M b32V 55) (kL.getD 55 0) (sch b32M 55) = _
  rw [b32_s55, b32_w55]
  unfold step
  rw [h1, h2]
  rfl
theorem b32_s57 : steps b32M b32V 57 = ⟨2069014642#32, 2300414916#32, 1470614162#32, 1219227125#32, 3995521348#32, 1146851723#32, 3953489542#32, 1904773511#32⟩ := by
  have h1 : t1 ⟨2300414916#32, 1470614162#32, 1219227125#32, 3335531743#32, 1146851723#32, 3953489542#32, 1904773511#32, 3284556542#32⟩ (kL.getD 56 0) 1271827805#32 = 659989605#32 := by decide +kernel
  have h2 : t2 ⟨2300414916#32, 1470614162#32, 1219227125#32, 3335531743#32, 1146851723#32, 3953489542#32, 1904773511#32, 3284556542#32⟩ = 1409025037#32 := by decide +kernel
  show step (steps b32M b32V 56) (kL.getD 56 0) (sch b32M 56) = _
  rw [b32_s56, b32_w56]
  unfold step
  rw [h1, h2]
  rfl
theorem b32_s58 : steps b32M b32V 58 = ⟨2113289780#32, 2069014642#32, 2300414916#32, 1470614162#32, 3550734323#32, 3995521348#32, 1146851723#32, 3953489542#32⟩ := by
  have h1 : t1 ⟨2069014642#32, 2300414916#32, 1470614162#32, 1219227125#32, 3995521348#32, 1146851723#32, 3953489542#32, 1904773511#32⟩ (kL.getD 57 0) 855136158#32 = 2331507198#32 := by decide +kernel
  have h2 : t2 ⟨2069014642#32, 2300414916#32, 1470614162#32, 1219227125#32, 3995521348#32, 1146851723#32, 3953489542#32, 1904773511#32⟩ = 4076749878#32 := by decide +kernel
  show step (steps b32M b32V 57) (kL.getD 57 0) (sch b32M 57) = _
  rw [b32_s57, b32_w57]
  unfold step
  rw [h1, h2]
  rfl
theorem b32_s59 : steps b32M b32V 59 = ⟨800944535#32, 2113289780#32, 2069014642#32, 2300414916#32, 3622297578#32, 3550734323#32, 3995521348#32, 1146851723#32⟩ := by
  have h1 : t1 ⟨2113289780#32, 2069014642#32, 2300414916#32, 1470614162#32, 3550734323#32, 3995521348#32, 1146851723#32, 3953489542#32⟩ (kL.getD 58 0) 1754289004#32 = 2151683416#32 := by decide +kernel
  have h2 : t2 ⟨2113289780#32, 2069014642#32, 2300414916#32, 1470614162#32, 3550734323#32, 3995521348#32, 1146851723#32, 3953489542#32⟩ = 2944228415#32 := by decide +kernel
  show step (steps b32M b32V 58) (kL.getD 58 0) (sch b32M 58) = _
  rw [b32_s58, b32_w58]
  unfold step
  rw [h1, h2]
  rfl
theorem b32_s60 : steps b32M b32V 60 = ⟨2501253798#32, 800944535#32, 2113289780#32, 2069014642#32, 3953979652#32, 3622297578#32, 3550734323#32, 3995521348#32⟩ := by
  have h1 : t1 ⟨800944535#32, 2113289780#32, 2069014642#32, 2300414916#32, 3622297578#32, 3550734323#32, 3995521348#32, 1146851723#32⟩ (kL.getD 59 0) 4024333016#32 = 1653564736#32 := by decide +kernel
  have h2 : t2 ⟨800944535#32, 2113289780#32, 2069014642#32, 2300414916#32, 3622297578#32, 3550734323#32, 3995521348#32, 1146851723#32⟩ = 847689062#32 := by decide +kernel
  show step (steps b32M b32V 59) (kL.getD 59 0) (sch b32M 59) = _
  rw [b32_s59, b32_w59]
  unfold step
  rw [h1, h2]
  rfl
theorem b32_s61 : steps b32M b32V 61 = ⟨3507690046#32, 2501253798#32, 800944535#32, 2113289780#32, 3868447661#32, 3953979652#32, 3622297578#32, 3550734323#32⟩ := by
  have h1 : t1 ⟨2501253798#32, 800944535#32, 2113289780#32, 2069014642#32, 3953979652#32, 3622297578#32, 3550734323#32, 3995521348#32⟩ (kL.getD 60 0) 862469595#32 = 1799433019#32 := by decide +kernel
  have h2 : t2 ⟨2501253798#32, 800944535#32, 2113289780#32, 2069014642#32, 3953979652#32, 3622297578#32, 3550734323#32, 3995521348#32⟩ = 1708257027#32 := by decide +kernel
  show step (steps b32M b32V 60) (kL.getD 60 0) (sch b32M 60) = _
  rw [b32_s60, b32_w60]
  unfold step
  rw [h1, h2]
  rfl
theorem b32_s62 : steps b32M b32V 62 = ⟨3581505314#32, 3507690046#32, 2501253798#32, 800944535#32, 2491276621#32, 3868447661#32, 3953979652#32, 3622297578#32⟩ := by
  have h1 : t1 ⟨3507690046#32, 2501253798#32, 800944535#32, 2113289780#32, 3868447661#32, 3953979652#32, 3622297578#32, 3550734323#32⟩ (kL.getD 61 0) 517939502#32 = 377986841#32 := by decide +kernel
  have h2 : t2 ⟨3507690046#32, 2501253798#32, 800944535#32, 2113289780#32, 3868447661#32, 3953979652#32, 3622297578#32, 3550734323#32⟩ = 3203518473#32 := by decide +kernel
  show step (steps b32M b32V 61) (kL.getD 61 0) (sch b32M 61) = _
  rw [b32_s61, b32_w61]
  unfold step
  rw [h1, h2]
  rfl
theorem b32_s63 : steps b32M b32V 63 = ⟨2750366839#32, 3581505314#32, 3507690046#32, 2501253798#32, 3567591570#32, 2491276621#32, 3868447661#32, 3953979652#32⟩ := by
  have h1 : t1 ⟨3581505314#32, 3507690046#32, 2501253798#32, 800944535#32, 2491276621#32, 3868447661#32, 3953979652#32, 3622297578#32⟩ (kL.getD 62 0) 2103860233#32 = 2766647035#32 := by decide +kernel
  have h2 : t2 ⟨3581505314#32, 3507690046#32, 2501253798#32, 800944535#32, 2491276621#32, 3868447661#32, 3953979652#32, 3622297578#32⟩ = 4278687100#32 := by decide +kernel
  show step (steps b32M b32V 62) (kL.getD 62 0) (sch b32M 62) = _
  rw [b32_s62, b32_w62]
  unfold step
  rw [h1, h2]
  rfl
theorem b32_s64 : steps b32M b32V 64 = ⟨180292662#32, 2750366839#32, 3581505314#32, 3507690046#32, 1476577214#32, 3567591570#32, 2491276621#32, 3868447661#32⟩ := by
  have h1 : t1 ⟨2750366839#32, 3581505314#32, 3507690046#32, 2501253798#32, 3567591570#32, 2491276621#32, 3868447661#32, 3953979652#32⟩ (kL.getD 63 0) 1325278889#32 = 3270290712#32 := by decide +kernel
  have h2 : t2 ⟨2750366839#32, 3581505314#32, 3507690046#32, 2501253798#32, 3567591570#32, 2491276621#32, 3868447661#32, 3953979652#32⟩ = 1204969246#32 := by decide +kernel
  show step (steps b32M b32V 63) (kL.getD 63 0) (sch b32M 63) = _
  rw [b32_s63, b32_w63]
  unfold step
  rw [h1, h2]
  rfl
theorem b32_run : run (pad b32L) 1 = ⟨1959326365#32, 1599533820#32, 300442260#32, 1986203512#32, 2836470333#32, 1873447198#32, 3020011256#32, 1114939590#32⟩ := by
  rw [b32_pad]
  show add8 b32V (steps b32M b32V 64) = _
  rw [b32_s64]
  rfl
theorem b32_sum : sum b32L = [116#8, 200#8, 242#8, 157#8, 95#8, 86#8, 242#8, 252#8, 17#8, 232#8, 98#8, 148#8, 118#8, 99#8, 15#8, 120#8, 169#8, 17#8, 26#8, 61#8, 111#8, 170#8, 137#8, 30#8, 180#8, 1#8, 182#8, 248#8, 66#8, 116#8, 160#8, 198#8] := by
  have e : sum b32L = out ⟨1959326365#32, 1599533820#32, 300442260#32, 1986203512#32, 2836470333#32, 1873447198#32, 3020011256#32, 1114939590#32⟩ := by
    unfold sum
    rw [show (pad b32L).length / 64 = 1 by rw [b32_pad]; rfl, b32_run]
  rw [e]
  decide +kernel
end Go.Proofs.YtkfijllghbopkaaGreatDoor.Dg
