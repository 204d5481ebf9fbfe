/-
  The state behind 15,625 blocks of 64 times the letter a, in 25 parts.
-/
import Derived.Test.YtgbdleenkblcfaaDoorShaFast
namespace Go.Proofs.YtgbdleenkblcfaaDoor

namespace Fa
def S1 : Sm.St := ⟨2980184124, 4055252723, 380558326, 3848951136, 619917395, 3724953604, 1241085446, 2795455954⟩
def S2 : Sm.St := ⟨3480499010, 1333227246, 884393318, 2192927904, 2339805852, 2416519719, 2298295811, 2434603153⟩
def S3 : Sm.St := ⟨3817410241, 129848790, 4156440462, 740622841, 449295930, 2859383890, 2573751462, 4092511495⟩
def S4 : Sm.St := ⟨2480449054, 887052842, 3735950646, 2529967085, 2552717231, 2132796822, 2247734032, 1574115203⟩
def S5 : Sm.St := ⟨316970583, 4221150854, 311357983, 64105143, 1164177717, 1807858894, 2571004778, 2276785209⟩
def S6 : Sm.St := ⟨3451735173, 1992480860, 4114376705, 4207124144, 1301879602, 2314567675, 2863845554, 413343649⟩
def S7 : Sm.St := ⟨25303342, 1446205656, 22677385, 2976249951, 462609797, 3758847419, 1575596734, 4081208719⟩
def S8 : Sm.St := ⟨4101075154, 129573525, 758111687, 2809097055, 2946173745, 4125254953, 3590949913, 2694474649⟩
def S9 : Sm.St := ⟨249274935, 97276911, 2625192275, 852671802, 2930304310, 3421827650, 450703807, 2891257336⟩
def S10 : Sm.St := ⟨3950689631, 1183676483, 523787800, 1079288165, 3531020339, 1967142716, 4113132345, 1750149100⟩
def S11 : Sm.St := ⟨92662511, 2039292810, 2812368728, 1398842276, 369889284, 3416214735, 196742846, 4050250501⟩
def S12 : Sm.St := ⟨3644021289, 3318186913, 3635780383, 3250820814, 1352957489, 568761720, 3897415568, 2084911344⟩
def S13 : Sm.St := ⟨2770629724, 3718244748, 1426248302, 1485112788, 2393428728, 2730147097, 2068496129, 955849718⟩
def S14 : Sm.St := ⟨1991337870, 2309255265, 3993853711, 1510319335, 975131125, 1966570908, 2691746226, 549922638⟩
def S15 : Sm.St := ⟨2229091582, 1247898798, 3129489793, 801003700, 3664384409, 2135943812, 1655664929, 4043692830⟩
def S16 : Sm.St := ⟨1482359619, 3053920332, 2218581276, 956914467, 3284847132, 1532092920, 4107310820, 2931061524⟩
def S17 : Sm.St := ⟨2671872303, 3494736969, 250824018, 496096432, 3522633456, 3909563648, 361649023, 839489138⟩
def S18 : Sm.St := ⟨185797383, 1717202109, 1189823254, 219299165, 1089675585, 3146653644, 666783934, 2760782249⟩
def S19 : Sm.St := ⟨3420580859, 3753318278, 2910203626, 3238094755, 2261397776, 2929822888, 3194009251, 2296366361⟩
def S20 : Sm.St := ⟨1527903575, 643982266, 137930256, 1901535836, 1469484063, 211280277, 2609170097, 3664365886⟩
def S21 : Sm.St := ⟨1782389935, 2251650807, 681093295, 2649148146, 1901012235, 2437441946, 16189232, 3449983928⟩
def S22 : Sm.St := ⟨1569553612, 654178797, 3862343199, 1717473844, 141936283, 2363548559, 2018722472, 3397912081⟩
def S23 : Sm.St := ⟨1965015889, 2320629160, 4007832554, 3991684233, 1295030224, 2131979557, 1814944490, 3770481227⟩
def S24 : Sm.St := ⟨3286924927, 1855780753, 2608627564, 176370035, 705989294, 1480277143, 2994088020, 951416902⟩
def S25 : Sm.St := ⟨2061136107, 1745259042, 791610055, 2140370626, 1884297759, 3529239238, 671294972, 693152569⟩
theorem m0 : it WA 0 Sm.H0 = Sm.H0 := it_zero _ _
set_option maxRecDepth 100000 in
theorem p1 : app (blocks KWA 625) Sm.H0 = S1.list := by decide +kernel
theorem m1 : it WA 625 Sm.H0 = S1 := @part 0 625 Sm.H0 S1 m0 rfl p1
set_option maxRecDepth 100000 in
theorem p2 : app (blocks KWA 625) S1 = S2.list := by decide +kernel
theorem m2 : it WA 1250 Sm.H0 = S2 := @part 625 625 S1 S2 m1 rfl p2
set_option maxRecDepth 100000 in
theorem p3 : app (blocks KWA 625) S2 = S3.list := by decide +kernel
theorem m3 : it WA 1875 Sm.H0 = S3 := @part 1250 625 S2 S3 m2 rfl p3
set_option maxRecDepth 100000 in
theorem p4 : app (blocks KWA 625) S3 = S4.list := by decide +kernel
theorem m4 : it WA 2500 Sm.H0 = S4 := @part 1875 625 S3 S4 m3 rfl p4
set_option maxRecDepth 100000 in
theorem p5 : app (blocks KWA 625) S4 = S5.list := by decide +kernel
theorem m5 : it WA 3125 Sm.H0 = S5 := @part 2500 625 S4 S5 m4 rfl p5
set_option maxRecDepth 100000 in
theorem p6 : app (blocks KWA 625) S5 = S6.list := by decide +kernel
theorem m6 : it WA 3750 Sm.H0 = S6 := @part 3125 625 S5 S6 m5 rfl p6
set_option maxRecDepth 100000 in
theorem p7 : app (blocks KWA 625) S6 = S7.list := by decide +kernel
theorem m7 : it WA 4375 Sm.H0 = S7 := @part 3750 625 S6 S7 m6 rfl p7
set_option maxRecDepth 100000 in
theorem p8 : app (blocks KWA 625) S7 = S8.list := by decide +kernel
theorem m8 : it WA 5000 Sm.H0 = S8 := @part 4375 625 S7 S8 m7 rfl p8
set_option maxRecDepth 100000 in
theorem p9 : app (blocks KWA 625) S8 = S9.list := by decide +kernel
theorem m9 : it WA 5625 Sm.H0 = S9 := @part 5000 625 S8 S9 m8 rfl p9
set_option maxRecDepth 100000 in
theorem p10 : app (blocks KWA 625) S9 = S10.list := by decide +kernel
theorem m10 : it WA 6250 Sm.H0 = S10 := @part 5625 625 S9 S10 m9 rfl p10
set_option maxRecDepth 100000 in
theorem p11 : app (blocks KWA 625) S10 = S11.list := by decide +kernel
theorem m11 : it WA 6875 Sm.H0 = S11 := @part 6250 625 S10 S11 m10 rfl p11
set_option maxRecDepth 100000 in
theorem p12 : app (blocks KWA 625) S11 = S12.list := by decide +kernel
theorem m12 : it WA 7500 Sm.H0 = S12 := @part 6875 625 S11 S12 m11 rfl p12
set_option maxRecDepth 100000 in
theorem p13 : app (blocks KWA 625) S12 = S13.list := by decide +kernel
theorem m13 : it WA 8125 Sm.H0 = S13 := @part 7500 625 S12 S13 m12 rfl p13
set_option maxRecDepth 100000 in
theorem p14 : app (blocks KWA 625) S13 = S14.list := by decide +kernel
theorem m14 : it WA 8750 Sm.H0 = S14 := @part 8125 625 S13 S14 m13 rfl p14
set_option maxRecDepth 100000 in
theorem p15 : app (blocks KWA 625) S14 = S15.list := by decide +kernel
theorem m15 : it WA 9375 Sm.H0 = S15 := @part 8750 625 S14 S15 m14 rfl p15
set_option maxRecDepth 100000 in
theorem p16 : app (blocks KWA 625) S15 = S16.list := by decide +kernel
theorem m16 : it WA 10000 Sm.H0 = S16 := @part 9375 625 S15 S16 m15 rfl p16
set_option maxRecDepth 100000 in
theorem p17 : app (blocks KWA 625) S16 = S17.list := by decide +kernel
theorem m17 : it WA 10625 Sm.H0 = S17 := @part 10000 625 S16 S17 m16 rfl p17
set_option maxRecDepth 100000 in
theorem p18 : app (blocks KWA 625) S17 = S18.list := by decide +kernel
theorem m18 : it WA 11250 Sm.H0 = S18 := @part 10625 625 S17 S18 m17 rfl p18
set_option maxRecDepth 100000 in
theorem p19 : app (blocks KWA 625) S18 = S19.list := by decide +kernel
theorem m19 : it WA 11875 Sm.H0 = S19 := @part 11250 625 S18 S19 m18 rfl p19
set_option maxRecDepth 100000 in
theorem p20 : app (blocks KWA 625) S19 = S20.list := by decide +kernel
theorem m20 : it WA 12500 Sm.H0 = S20 := @part 11875 625 S19 S20 m19 rfl p20
set_option maxRecDepth 100000 in
theorem p21 : app (blocks KWA 625) S20 = S21.list := by decide +kernel
theorem m21 : it WA 13125 Sm.H0 = S21 := @part 12500 625 S20 S21 m20 rfl p21
set_option maxRecDepth 100000 in
theorem p22 : app (blocks KWA 625) S21 = S22.list := by decide +kernel
theorem m22 : it WA 13750 Sm.H0 = S22 := @part 13125 625 S21 S22 m21 rfl p22
set_option maxRecDepth 100000 in
theorem p23 : app (blocks KWA 625) S22 = S23.list := by decide +kernel
theorem m23 : it WA 14375 Sm.H0 = S23 := @part 13750 625 S22 S23 m22 rfl p23
set_option maxRecDepth 100000 in
theorem p24 : app (blocks KWA 625) S23 = S24.list := by decide +kernel
theorem m24 : it WA 15000 Sm.H0 = S24 := @part 14375 625 S23 S24 m23 rfl p24
set_option maxRecDepth 100000 in
theorem p25 : app (blocks KWA 625) S24 = S25.list := by decide +kernel
theorem m25 : it WA 15625 Sm.H0 = S25 := @part 15000 625 S24 S25 m24 rfl p25
end Fa
end Go.Proofs.YtgbdleenkblcfaaDoor
