package tests

import (
	"testing"

	"loop.example/g01403/impl"
)

// The wanted texts are those of another program, in another language, which follows the document's steps.

var (
	reds    = []float32{0.2, 1.1, 3.7, 2.9, 0.6, 0.1}
	greens  = []float32{0.05, 0.3, 1.2, 3.3, 2.1, 0.4}
	blues   = []float32{1.9, 2.6, 0.8, 0.25, 0.1, 0.7}
	dull    = []float32{0.9, 1.7, 2.2, 2.4, 1.3, 0.5}
	crooked = []float32{-0.3, 1.25, 0.4, -2.1, 3.3, 0.7, 0.9, -0.6, 1.1}

	threeColours = [][]float32{reds, greens, blues}
	fourColours  = [][]float32{reds, greens, blues, dull}
)

func TestNormalListsAreTold(t *testing.T) {
	wantTold(t, []told{
		{"NormalOf of {3, 4}", say(impl.NormalOf([]float32{3, 4})), "3f19999a,3f4ccccd,true "},
		{"NormalOf of {3, 4, 0}", say(impl.NormalOf([]float32{3, 4, 0})), "3f19999a,3f4ccccd,00000000,true "},
		{"NormalOf of reds", say(impl.NormalOf(reds)), "3d2833db,3e67474d,3f427bf5,3f186efe,3dfc4dc9,3ca833db,true "},
		{"NormalOf of crooked", say(impl.NormalOf(crooked)), "bd8971b6,3e8f2bc8,3db74247,bef086fd,3f3cfc59,3e2059fe,3e4e2a90,be0971b6,3e7bfb22,true "},
		{"NormalOf of {-2}", say(impl.NormalOf([]float32{-2})), "bf800000,true "},
		{"NormalOf of {0.1, 0.2, 0.3}", say(impl.NormalOf([]float32{0.1, 0.2, 0.3})), "3e88d676,3f08d676,3f4d41b2,true "},
		{"NormalOf of {minusZero, 5}", say(impl.NormalOf([]float32{minusZero, 5})), "80000000,3f800000,true "},
		{"NormalOf of {1e-22, 2e-22}", say(impl.NormalOf([]float32{1e-22, 2e-22})), "3ee3f50f,3f63f50f,true "},
		{"NormalOf of {1e+19}", say(impl.NormalOf([]float32{1e+19})), "3f800000,true "},
		{"NormalOf of {1e-20, 1e+18, minusZero}", say(impl.NormalOf([]float32{1e-20, 1e+18, minusZero})), "006ce3ee,3f800000,80000000,true "},
		{"NormalOf of {3e-23, least}", say(impl.NormalOf([]float32{3e-23, least})), "3f4d295a,1a3504f3,true "},
		{"ScaledOf of {1, -2}", say(impl.ScaledOf([]float32{1, -2})), "3f000000,bf800000,true "},
		{"ScaledOf of blues", say(impl.ScaledOf(blues)), "3f3b13b2,3f800000,3e9d89d9,3dc4ec4f,3d1d89d9,3e89d89e,true "},
		{"ScaledOf of crooked", say(impl.ScaledOf(crooked)), "bdba2e8c,3ec1f07c,3df83e10,bf22e8ba,3f800000,3e59364e,3e8ba2e9,be3a2e8c,3eaaaaab,true "},
		{"ScaledOf of {-0.3, 0.1}", say(impl.ScaledOf([]float32{-0.3, 0.1})), "bf800000,3eaaaaaa,true "},
		{"ScaledOf of {least, least}", say(impl.ScaledOf([]float32{least, least})), "3f800000,3f800000,true "},
		{"ScaledOf of {greatest, -greatest, 1}", say(impl.ScaledOf([]float32{greatest, -greatest, 1})), "3f800000,bf800000,00200000,true "},
		{"ScaledOf of {0, minusZero, 0.7}", say(impl.ScaledOf([]float32{0, minusZero, 0.7})), "00000000,80000000,3f800000,true "},
		{"ScaledOf of {3e-45, 1e-44}", say(impl.ScaledOf([]float32{3e-45, 1e-44})), "3e924925,3f800000,true "},
		{"ScaledOf of {-7, 3}", say(impl.ScaledOf([]float32{-7, 3})), "bf800000,3edb6db7,true "},
	})
}

func TestSmoothListsAreTold(t *testing.T) {
	wantTold(t, []told{
		{"SmoothMean of {1, 2, 6}, 1", say(impl.SmoothMean([]float32{1, 2, 6}, 1)), "3fc00000,40400000,40800000,true "},
		{"SmoothMean of reds, 0", say(impl.SmoothMean(reds, 0)), "3e4ccccd,3f8ccccd,406ccccd,4039999a,3f19999a,3dcccccd,true "},
		{"SmoothMean of reds, 1", say(impl.SmoothMean(reds, 1)), "3f266667,3fd55555,40244445,4019999a,3f999999,3eb33334,true "},
		{"SmoothMean of crooked, 2", say(impl.SmoothMean(crooked, 2)), "3ee66667,be3ffffe,3f028f5d,3f35c28f,3f23d70a,3ee147b0,3f8a3d71,3f066666,3eeeeeef,true "},
		{"SmoothMean of crooked, 3", say(impl.SmoothMean(crooked, 3)), "be3ffffe,3f028f5d,3f0aaaab,3f17c57d,3f0ccccd,3f075075,3f0ccccd,3f8a3d71,3f066666,true "},
		{"SmoothMean of crooked, 8", say(impl.SmoothMean(crooked, 8)), "3f044444,3f044444,3f044444,3f044444,3f044444,3f044444,3f044444,3f044444,3f044444,true "},
		{"SmoothMean of crooked, 128", say(impl.SmoothMean(crooked, 128)), "3f044444,3f044444,3f044444,3f044444,3f044444,3f044444,3f044444,3f044444,3f044444,true "},
		{"SmoothMean of {0.1}, 5", say(impl.SmoothMean([]float32{0.1}, 5)), "3dcccccd,true "},
		{"SmoothMean of {0.1, 0.2, 0.4}, 1", say(impl.SmoothMean([]float32{0.1, 0.2, 0.4}, 1)), "3e19999a,3e6eeef0,3e99999a,true "},
		{"SmoothMean of {minusZero, minusZero}, 1", say(impl.SmoothMean([]float32{minusZero, minusZero}, 1)), "00000000,00000000,true "},
		{"SmoothMean of {minusZero}, 0", say(impl.SmoothMean([]float32{minusZero}, 0)), "00000000,true "},
		{"SmoothMean of {greatest, -greatest, 1}, 1", say(impl.SmoothMean([]float32{greatest, -greatest, 1}, 1)), "00000000,3eaaaaab,feffffff,true "},
		{"SmoothMean of {least, 0, 0}, 2", say(impl.SmoothMean([]float32{least, 0, 0}, 2)), "00000000,00000000,00000000,true "},
		{"SmoothCurve of {1, 2, 3, 4, 5}", say(impl.SmoothCurve([]float32{1, 2, 3, 4, 5})), "3f800000,40000000,40400000,40800000,40a00000,true "},
		{"SmoothCurve of reds", say(impl.SmoothCurve(reds)), "3e4ccccd,3f8ccccd,40466666,4031eb85,3f19999a,3dcccccd,true "},
		{"SmoothCurve of crooked", say(impl.SmoothCurve(crooked)), "be99999a,3fa00000,beb564ee,3da6c409,3f81767d,4000bb3e,3dc118da,bf19999a,3f8ccccd,true "},
		{"SmoothCurve of {1, 2, 6}", say(impl.SmoothCurve([]float32{1, 2, 6})), "3f800000,40000000,40c00000,true "},
		{"SmoothCurve of {0, 0, 1, 0, 0}", say(impl.SmoothCurve([]float32{0, 0, 1, 0, 0})), "00000000,00000000,3ef8af8b,00000000,00000000,true "},
		{"SmoothCurve of {0.1, 0.2, 0.4, 0.7}", say(impl.SmoothCurve([]float32{0.1, 0.2, 0.4, 0.7})), "3dcccccd,3e4ccccd,3ecccccd,3f333333,true "},
		{"SmoothCurve of {0.1, 0.2, 0.4, 0.7, 1.3}", say(impl.SmoothCurve([]float32{0.1, 0.2, 0.4, 0.7, 1.3})), "3dcccccd,3e4ccccd,3ec405da,3f333333,3fa66666,true "},
		{"SmoothCurve of {minusZero, minusZero, minusZero, minusZero, minusZero}", say(impl.SmoothCurve([]float32{minusZero, minusZero, minusZero, minusZero, minusZero})), "80000000,80000000,00000000,80000000,80000000,true "},
		{"SmoothCurve of {1, 0, 0, 0, 0}", say(impl.SmoothCurve([]float32{1, 0, 0, 0, 0})), "3f800000,00000000,bdaf8af9,00000000,00000000,true "},
		{"SmoothCurve of {0, 0, 0, 1, 0, 0, 0}", say(impl.SmoothCurve([]float32{0, 0, 0, 1, 0, 0, 0})), "00000000,00000000,3eaf8af9,3ef8af8b,3eaf8af9,00000000,00000000,true "},
		{"SmoothCurve of {least, least, least, least, least}", say(impl.SmoothCurve([]float32{least, least, least, least, least})), "00000001,00000001,00000001,00000001,00000001,true "},
		{"SmoothCurve of {5e+36, 5e+36, 5e+36, 5e+36, 5e+36}", say(impl.SmoothCurve([]float32{5e+36, 5e+36, 5e+36, 5e+36, 5e+36})), "7c70bdc2,7c70bdc2,7c70bdc4,7c70bdc2,7c70bdc2,true "},
	})
}

func TestBasesAreTold(t *testing.T) {
	wantTold(t, []told{
		{"BaseOf of {0, 2, 0}, 1", say(impl.BaseOf([]float32{0, 2, 0}, 1)), "00000000,00000000,00000000,true "},
		{"BaseOf of {0, 2, 0}, 0", say(impl.BaseOf([]float32{0, 2, 0}, 0)), "00000000,40000000,00000000,true "},
		{"BaseOf of reds, 1", say(impl.BaseOf(reds, 1)), "3e4ccccd,3f8ccccd,40000000,4009999a,3f19999a,3dcccccd,true "},
		{"BaseOf of reds, 2", say(impl.BaseOf(reds, 2)), "3e4ccccd,3f8ccccd,3fd00000,3fa66666,3f19999a,3dcccccd,true "},
		{"BaseOf of reds, 64", say(impl.BaseOf(reds, 64)), "3e4ccccd,3e38524e,3e23d7b2,3e0f5cc7,3df5c35e,3dcccccd,true "},
		{"BaseOf of crooked, 1", say(impl.BaseOf(crooked, 1)), "be99999a,3d4ccccc,bed99998,c0066666,bf333332,3f333333,3d4cccc8,bf19999a,3f8ccccd,true "},
		{"BaseOf of crooked, 2", say(impl.BaseOf(crooked, 2)), "be99999a,beb99999,bf833333,c0066666,bf333332,bea66666,3d4cccc8,bf19999a,3f8ccccd,true "},
		{"BaseOf of crooked, 5", say(impl.BaseOf(crooked, 5)), "be99999a,bf573332,bfb76666,c0066666,bfbc0000,bf566666,bf380000,bf19999a,3f8ccccd,true "},
		{"BaseOf of crooked, 64", say(impl.BaseOf(crooked, 64)), "be99999a,bf666666,bfc00000,c0066666,bfdccccc,bfaccccc,bf799999,bf19999a,3f8ccccd,true "},
		{"BaseOf of {5}, 3", say(impl.BaseOf([]float32{5}, 3)), "40a00000,true "},
		{"BaseOf of {5, -1}, 3", say(impl.BaseOf([]float32{5, -1}, 3)), "40a00000,bf800000,true "},
		{"BaseOf of {0, 9, 9, 9, 0}, 1", say(impl.BaseOf([]float32{0, 9, 9, 9, 0}, 1)), "00000000,40900000,41100000,40900000,00000000,true "},
		{"BaseOf of {0, 9, 9, 9, 0}, 2", say(impl.BaseOf([]float32{0, 9, 9, 9, 0}, 2)), "00000000,40900000,40900000,40900000,00000000,true "},
		{"BaseOf of {0, 9, 9, 9, 0}, 3", say(impl.BaseOf([]float32{0, 9, 9, 9, 0}, 3)), "00000000,40100000,40900000,40100000,00000000,true "},
		{"BaseOf of {0.1, 0.3, 0.2}, 1", say(impl.BaseOf([]float32{0.1, 0.3, 0.2}, 1)), "3dcccccd,3e19999a,3e4ccccd,true "},
		{"BaseOf of {-least, 0, 0}, 1", say(impl.BaseOf([]float32{-least, 0, 0}, 1)), "80000001,00000000,00000000,true "},
		{"BaseOf of {2e+38, greatest, 2e+38}, 4", say(impl.BaseOf([]float32{2e+38, greatest, 2e+38}, 4)), "7f167699,7f7fffff,7f167699,true "},
		{"LessBase of {0, 2, 0}, 1", say(impl.LessBase([]float32{0, 2, 0}, 1)), "00000000,40000000,00000000,true "},
		{"LessBase of reds, 0", say(impl.LessBase(reds, 0)), "00000000,00000000,00000000,00000000,00000000,00000000,true "},
		{"LessBase of reds, 3", say(impl.LessBase(reds, 3)), "00000000,3e400000,40200000,3fe4ccce,00000000,00000000,true "},
		{"LessBase of crooked, 2", say(impl.LessBase(crooked, 2)), "00000000,3fce6666,3fb66666,00000000,40800000,3f833333,3f59999a,00000000,00000000,true "},
		{"LessBase of crooked, 64", say(impl.LessBase(crooked, 64)), "00000000,4009999a,3ff33333,00000000,40a0cccc,40033333,3ff00000,00000000,00000000,true "},
		{"LessBase of {5, -1}, 3", say(impl.LessBase([]float32{5, -1}, 3)), "00000000,00000000,true "},
		{"LessBase of {minusZero}, 2", say(impl.LessBase([]float32{minusZero}, 2)), "00000000,true "},
	})
}

func TestShiftsAreTold(t *testing.T) {
	wantTold(t, []told{
		{"ShiftList of {1, 2, 3}, 1", say(impl.ShiftList([]float32{1, 2, 3}, 1)), "00000000,3f800000,40000000,true "},
		{"ShiftList of {1, 2, 3}, -1", say(impl.ShiftList([]float32{1, 2, 3}, -1)), "40000000,40400000,00000000,true "},
		{"ShiftList of {1, 2, 3}, 0", say(impl.ShiftList([]float32{1, 2, 3}, 0)), "3f800000,40000000,40400000,true "},
		{"ShiftList of {1, 2, 3}, 2", say(impl.ShiftList([]float32{1, 2, 3}, 2)), "00000000,00000000,3f800000,true "},
		{"ShiftList of {1, 2, 3}, 3", say(impl.ShiftList([]float32{1, 2, 3}, 3)), "00000000,00000000,00000000,true "},
		{"ShiftList of {1, 2, 3}, -3", say(impl.ShiftList([]float32{1, 2, 3}, -3)), "00000000,00000000,00000000,true "},
		{"ShiftList of {1, 2, 3}, 128", say(impl.ShiftList([]float32{1, 2, 3}, 128)), "00000000,00000000,00000000,true "},
		{"ShiftList of {1, 2, 3}, -128", say(impl.ShiftList([]float32{1, 2, 3}, -128)), "00000000,00000000,00000000,true "},
		{"ShiftList of crooked, 4", say(impl.ShiftList(crooked, 4)), "00000000,00000000,00000000,00000000,be99999a,3fa00000,3ecccccd,c0066666,40533333,true "},
		{"ShiftList of crooked, -7", say(impl.ShiftList(crooked, -7)), "bf19999a,3f8ccccd,00000000,00000000,00000000,00000000,00000000,00000000,00000000,true "},
		{"ShiftList of {minusZero}, 0", say(impl.ShiftList([]float32{minusZero}, 0)), "80000000,true "},
		{"ShiftList of {-1, minusZero}, 1", say(impl.ShiftList([]float32{-1, minusZero}, 1)), "00000000,bf800000,true "},
		{"BestShift of {0, 1, 0}, {1, 0, 0}, 2", say(impl.BestShift([]float32{0, 1, 0}, []float32{1, 0, 0}, 2)), "-1 true "},
		{"BestShift of {0, 1, 0}, {0, 1, 0}, 2", say(impl.BestShift([]float32{0, 1, 0}, []float32{0, 1, 0}, 2)), "0 true "},
		{"BestShift of {0, 1, 0}, {0, 0, 1}, 0", say(impl.BestShift([]float32{0, 1, 0}, []float32{0, 0, 1}, 0)), "0 true "},
		{"BestShift of {0, 0, 1}, {1, 0, 0}, 1", say(impl.BestShift([]float32{0, 0, 1}, []float32{1, 0, 0}, 1)), "0 true "},
		{"BestShift of {0, 0, 1}, {1, 0, 0}, 2", say(impl.BestShift([]float32{0, 0, 1}, []float32{1, 0, 0}, 2)), "-2 true "},
		{"BestShift of reds, greens, 4", say(impl.BestShift(reds, greens, 4)), "1 true "},
		{"BestShift of greens, reds, 4", say(impl.BestShift(greens, reds, 4)), "-1 true "},
		{"BestShift of reds, greens, 0", say(impl.BestShift(reds, greens, 0)), "0 true "},
		{"BestShift of crooked, crooked, 128", say(impl.BestShift(crooked, crooked, 128)), "0 true "},
		{"BestShift of {1, 0, 1}, {0, 1, 0}, 2", say(impl.BestShift([]float32{1, 0, 1}, []float32{0, 1, 0}, 2)), "1 true "},
		{"BestShift of {0, 1, 0}, {1, 0, 1}, 2", say(impl.BestShift([]float32{0, 1, 0}, []float32{1, 0, 1}, 2)), "1 true "},
		{"BestShift of {0}, {0}, 3", say(impl.BestShift([]float32{0}, []float32{0}, 3)), "0 true "},
		{"BestShift of {-1, -1}, {1, 1}, 1", say(impl.BestShift([]float32{-1, -1}, []float32{1, 1}, 1)), "1 true "},
		{"BestShift of {-1, -1}, {1, 1}, 2", say(impl.BestShift([]float32{-1, -1}, []float32{1, 1}, 2)), "2 true "},
		{"BestShift of {1, 1}, {-1, 2}, 1", say(impl.BestShift([]float32{1, 1}, []float32{-1, 2}, 1)), "1 true "},
		{"BestShift of {0, 0, 5, 0}, {5, 0, 0, 0}, 128", say(impl.BestShift([]float32{0, 0, 5, 0}, []float32{5, 0, 0, 0}, 128)), "-2 true "},
		{"BestShift of {greatest, 1}, {1, greatest}, 1", say(impl.BestShift([]float32{greatest, 1}, []float32{1, greatest}, 1)), "0 true "},
		{"BestShift of {1, -1, 1, -1}, {1, -1, 1, -1}, 3", say(impl.BestShift([]float32{1, -1, 1, -1}, []float32{1, -1, 1, -1}, 3)), "0 true "},
	})
}

func TestNumbersAtStepsAreTold(t *testing.T) {
	wantTold(t, []told{
		{"AtSteps of {0, 4}, -1, 0.5, 5", say(impl.AtSteps([]float32{0, 4}, -1, 0.5, 5)), "00000000,00000000,00000000,40000000,40800000,true "},
		{"AtSteps of {0, 4}, 0, 1, 2", say(impl.AtSteps([]float32{0, 4}, 0, 1, 2)), "00000000,40800000,true "},
		{"AtSteps of {0, 4}, 0, 1, 3", say(impl.AtSteps([]float32{0, 4}, 0, 1, 3)), "00000000,40800000,00000000,true "},
		{"AtSteps of reds, 0.3, 0.7, 8", say(impl.AtSteps(reds, 0.3, 0.7, 8)), "3ef0a3d8,3f8ccccd,403ae148,405851ec,402ae149,3f87ae15,3eb33334,00000000,true "},
		{"AtSteps of reds, 5, -0.45, 13", say(impl.AtSteps(reds, 5, -0.45, 13)), "3dcccccd,3ea66664,3f0cccce,3fb3d708,401c28f6,40466667,405d70a3,4053d70c,4008f5c4,3f870a40,3f266667,3e7ae154,00000000,true "},
		{"AtSteps of crooked, -0.1, 0.1, 12", say(impl.AtSteps(crooked, -0.1, 0.1, 12)), "00000000,be99999a,be147ae2,3c23d720,3e28f5c2,3ea3d70a,3ef33332,3f2147ac,3f48f5c1,3f70a3d7,3f8c28f4,3fa00000,true "},
		{"AtSteps of crooked, 7.9, 0.05, 4", say(impl.AtSteps(crooked, 7.9, 0.05, 4)), "3f6e147e,3f81eb89,3f8ccccd,00000000,true "},
		{"AtSteps of crooked, 2.5, 0, 2", say(impl.AtSteps(crooked, 2.5, 0, 2)), "bf59999a,bf59999a,true "},
		{"AtSteps of {7}, 0, 1, 2", say(impl.AtSteps([]float32{7}, 0, 1, 2)), "40e00000,00000000,true "},
		{"AtSteps of {7}, minusZero, 1, 1", say(impl.AtSteps([]float32{7}, minusZero, 1, 1)), "40e00000,true "},
		{"AtSteps of {7}, -least, least, 3", say(impl.AtSteps([]float32{7}, -least, least, 3)), "00000000,40e00000,00000000,true "},
		{"AtSteps of {minusZero, minusZero}, 1, 0, 1", say(impl.AtSteps([]float32{minusZero, minusZero}, 1, 0, 1)), "80000000,true "},
		{"AtSteps of {minusZero, minusZero}, 0, 0.5, 2", say(impl.AtSteps([]float32{minusZero, minusZero}, 0, 0.5, 2)), "00000000,00000000,true "},
		{"AtSteps of {3, 1}, greatest, greatest, 3", say(impl.AtSteps([]float32{3, 1}, greatest, greatest, 3)), "00000000,00000000,00000000,true "},
		{"AtSteps of {3, 1}, 1000000000, -1000000000, 3", say(impl.AtSteps([]float32{3, 1}, 1000000000, -1000000000, 3)), "00000000,40400000,00000000,true "},
		{"AtSteps of {1, 2}, 1.0000001, 0, 1", say(impl.AtSteps([]float32{1, 2}, 1.0000001, 0, 1)), "00000000,true "},
		{"AtSteps of {0.1, 0.3}, 0.7, 0, 1", say(impl.AtSteps([]float32{0.1, 0.3}, 0.7, 0, 1)), "3e75c290,true "},
	})
}

func TestLikesAreTold(t *testing.T) {
	wantTold(t, []told{
		{"LikeOf of {1, 0}, {0, 1}", say(impl.LikeOf([]float32{1, 0}, []float32{0, 1})), "00000000 true "},
		{"LikeOf of {1, 0}, {3, 0}", say(impl.LikeOf([]float32{1, 0}, []float32{3, 0})), "3f800000 true "},
		{"LikeOf of {1, 0}, {-3, 0}", say(impl.LikeOf([]float32{1, 0}, []float32{-3, 0})), "bf800000 true "},
		{"LikeOf of reds, greens", say(impl.LikeOf(reds, greens)), "3f478ec1 true "},
		{"LikeOf of greens, reds", say(impl.LikeOf(greens, reds)), "3f478ec1 true "},
		{"LikeOf of reds, blues", say(impl.LikeOf(reds, blues)), "3eda0515 true "},
		{"LikeOf of reds, reds", say(impl.LikeOf(reds, reds)), "3f7ffffe true "},
		{"LikeOf of blues, dull", say(impl.LikeOf(blues, dull)), "3f278117 true "},
		{"LikeOf of {0.1, 0.2}, {0.3, 0.7}", say(impl.LikeOf([]float32{0.1, 0.2}, []float32{0.3, 0.7})), "3f7f8ee8 true "},
		{"LikeOf of {1e-20, 1e-20}, {1e+18, 2e+18}", say(impl.LikeOf([]float32{1e-20, 1e-20}, []float32{1e+18, 2e+18})), "3f72dd12 true "},
		{"LikeOf of {2}, {5}", say(impl.LikeOf([]float32{2}, []float32{5})), "3f800000 true "},
		{"FarOf of {3, 0}, {0, 4}", say(impl.FarOf([]float32{3, 0}, []float32{0, 4})), "40a00000 true "},
		{"FarOf of reds, greens", say(impl.FarOf(reds, greens)), "404459c8 true "},
		{"FarOf of greens, reds", say(impl.FarOf(greens, reds)), "404459c8 true "},
		{"FarOf of reds, reds", say(impl.FarOf(reds, reds)), "00000000 true "},
		{"FarOf of blues, dull", say(impl.FarOf(blues, dull)), "40491767 true "},
		{"FarOf of {minusZero}, {0}", say(impl.FarOf([]float32{minusZero}, []float32{0})), "00000000 true "},
		{"FarOf of {0.1}, {0.3}", say(impl.FarOf([]float32{0.1}, []float32{0.3})), "3e4cccce true "},
		{"FarOf of {1e+19}, {0}", say(impl.FarOf([]float32{1e+19}, []float32{0})), "5f0ac723 true "},
		{"FarOf of {least}, {0}", say(impl.FarOf([]float32{least}, []float32{0})), "00000000 true "},
		{"FarOf of {1e-22}, {-1e-22}", say(impl.FarOf([]float32{1e-22}, []float32{-1e-22})), "1b73b46a true "},
	})
}

func TestMeansAndOddOnesAreTold(t *testing.T) {
	wantTold(t, []told{
		{"MeanSpectrum of {{1, 0}, {0, 1}}", say(impl.MeanSpectrum([][]float32{{1, 0}, {0, 1}})), "3f000000,3f000000,true "},
		{"MeanSpectrum of threeColours", say(impl.MeanSpectrum(threeColours)), "3f377778,3faaaaab,3ff33334,40099999,3f6eeeed,3ecccccd,true "},
		{"MeanSpectrum of fourColours", say(impl.MeanSpectrum(fourColours)), "3f433334,3fb66666,3ffcccce,400d999a,3f833332,3ed9999a,true "},
		{"MeanSpectrum of {reds}", say(impl.MeanSpectrum([][]float32{reds})), "3e4ccccd,3f8ccccd,406ccccd,4039999a,3f19999a,3dcccccd,true "},
		{"MeanSpectrum of {{0.1}, {0.2}, {0.4}}", say(impl.MeanSpectrum([][]float32{{0.1}, {0.2}, {0.4}})), "3e6eeef0,true "},
		{"MeanSpectrum of {{minusZero}, {minusZero}}", say(impl.MeanSpectrum([][]float32{{minusZero}, {minusZero}})), "00000000,true "},
		{"MeanSpectrum of {{1e+38}, {1e+38}, {1e+38}}", say(impl.MeanSpectrum([][]float32{{1e+38}, {1e+38}, {1e+38}})), "7e967699,true "},
		{"MeanSpectrum of {{greatest, 1}, {-greatest, 2}}", say(impl.MeanSpectrum([][]float32{{greatest, 1}, {-greatest, 2}})), "00000000,3fc00000,true "},
		{"OddSpectrum of {{1, 0}, {1, 0}, {0, 1}}", say(impl.OddSpectrum([][]float32{{1, 0}, {1, 0}, {0, 1}})), "2 true "},
		{"OddSpectrum of threeColours", say(impl.OddSpectrum(threeColours)), "2 true "},
		{"OddSpectrum of fourColours", say(impl.OddSpectrum(fourColours)), "2 true "},
		{"OddSpectrum of {reds}", say(impl.OddSpectrum([][]float32{reds})), "0 true "},
		{"OddSpectrum of {blues, reds, greens}", say(impl.OddSpectrum([][]float32{blues, reds, greens})), "0 true "},
		{"OddSpectrum of {{1, 0}, {0, 1}}", say(impl.OddSpectrum([][]float32{{1, 0}, {0, 1}})), "0 true "},
		{"OddSpectrum of {{2, 1}, {1, 2}, {1, 2}}", say(impl.OddSpectrum([][]float32{{2, 1}, {1, 2}, {1, 2}})), "0 true "},
		{"OddSpectrum of {{1, 0, 0}, {0, 1, 0}, {0, 0, 1}, {1, 1, 1}}", say(impl.OddSpectrum([][]float32{{1, 0, 0}, {0, 1, 0}, {0, 0, 1}, {1, 1, 1}})), "0 true "},
	})
}

func TestRanksAreTold(t *testing.T) {
	wantTold(t, []told{
		{"RankLibrary of {0, 2}, {{1, 0}, {0, 1}}", say(impl.RankLibrary([]float32{0, 2}, [][]float32{{1, 0}, {0, 1}})), "[1 0] true "},
		{"RankLibrary of dull, threeColours", say(impl.RankLibrary(dull, threeColours)), "[0 1 2] true "},
		{"RankLibrary of reds, threeColours", say(impl.RankLibrary(reds, threeColours)), "[0 1 2] true "},
		{"RankLibrary of blues, fourColours", say(impl.RankLibrary(blues, fourColours)), "[2 3 0 1] true "},
		{"RankLibrary of greens, fourColours", say(impl.RankLibrary(greens, fourColours)), "[1 3 0 2] true "},
		{"RankLibrary of {1, 1}, {{1, 0}, {0, 1}, {1, 1}, {2, 2}, {-1, 1}}", say(impl.RankLibrary([]float32{1, 1}, [][]float32{{1, 0}, {0, 1}, {1, 1}, {2, 2}, {-1, 1}})), "[2 3 0 1 4] true "},
		{"RankLibrary of {1, 0}, {{0, 1}, {0, 2}, {0, -1}}", say(impl.RankLibrary([]float32{1, 0}, [][]float32{{0, 1}, {0, 2}, {0, -1}})), "[0 1 2] true "},
		{"RankLibrary of {1}, {{-1}, {1}, {-2}, {3}}", say(impl.RankLibrary([]float32{1}, [][]float32{{-1}, {1}, {-2}, {3}})), "[1 3 0 2] true "},
		{"RankLibrary of {5}, {{2}}", say(impl.RankLibrary([]float32{5}, [][]float32{{2}})), "[0] true "},
	})
}

func TestMixturesAreTold(t *testing.T) {
	wantTold(t, []told{
		{"MixOf of {{1, 0}, {0, 1}}, {2, 3}", say(impl.MixOf([][]float32{{1, 0}, {0, 1}}, []float32{2, 3})), "40000000,40400000,true "},
		{"MixOf of threeColours, {0.5, 0.25, 2}", say(impl.MixOf(threeColours, []float32{0.5, 0.25, 2})), "407a6666,40ba6666,40700000,4031999a,3f833333,3fc66666,true "},
		{"MixOf of threeColours, {0.1, -0.2, 0.3}", say(impl.MixOf(threeColours, []float32{0.1, -0.2, 0.3})), "3f147ae1,3f547ae2,3ebd70a4,be970a3e,bea8f5c2,3e0f5c29,true "},
		{"MixOf of fourColours, {0, 0, 0, 0}", say(impl.MixOf(fourColours, []float32{0, 0, 0, 0})), "00000000,00000000,00000000,00000000,00000000,00000000,true "},
		{"MixOf of fourColours, {1, minusZero, 3, 0.7}", say(impl.MixOf(fourColours, []float32{1, minusZero, 3, 0.7})), "40d0f5c2,412170a4,40f47ae2,40aa8f5c,3fe7ae14,40233332,true "},
		{"MixOf of {{minusZero}}, {1}", say(impl.MixOf([][]float32{{minusZero}}, []float32{1})), "00000000,true "},
		{"MixOf of {{0.1}, {0.2}, {0.3}}, {0.1, 0.2, 0.3}", say(impl.MixOf([][]float32{{0.1}, {0.2}, {0.3}}, []float32{0.1, 0.2, 0.3})), "3e0f5c2a,true "},
		{"MixOf of {{1e+30}, {-1e+30}}, {100000000, 100000000}", say(impl.MixOf([][]float32{{1e+30}, {-1e+30}}, []float32{100000000, 100000000})), "00000000,true "},
		{"MixOf of {{least}}, {0.5}", say(impl.MixOf([][]float32{{least}}, []float32{0.5})), "00000000,true "},
		{"UnmixOnce of {2, -3}, {{1, 0}, {0, 1}}, {0, 1}", say(impl.UnmixOnce([]float32{2, -3}, [][]float32{{1, 0}, {0, 1}}, []float32{0, 1})), "40000000,00000000,true "},
		{"UnmixOnce of {2, 3}, {{1, 0}, {0, 1}}, {0, 0}", say(impl.UnmixOnce([]float32{2, 3}, [][]float32{{1, 0}, {0, 1}}, []float32{0, 0})), "40000000,40400000,true "},
		{"UnmixOnce of dull, threeColours, {0, 0, 0}", say(impl.UnmixOnce(dull, threeColours, []float32{0, 0, 0})), "3f420cf3,3e037fff,3e8e5c71,true "},
		{"UnmixOnce of dull, threeColours, {1, 2, 0.5}", say(impl.UnmixOnce(dull, threeColours, []float32{1, 2, 0.5})), "00000000,3f3bddcc,3f134ad9,true "},
		{"UnmixOnce of dull, threeColours, {0.3, 0.4, 0.3}", say(impl.UnmixOnce(dull, threeColours, []float32{0.3, 0.4, 0.3})), "3ecf4b08,3ecbccac,3ed702e8,true "},
		{"UnmixOnce of reds, threeColours, {0, 1, 0}", say(impl.UnmixOnce(reds, threeColours, []float32{0, 1, 0})), "3eae3136,3f1b8f40,3e7281e8,true "},
		{"UnmixOnce of {0.1, 0.2}, {{0.3, 0.1}, {0.2, 0.7}}, {0.5, 0.5}", say(impl.UnmixOnce([]float32{0.1, 0.2}, [][]float32{{0.3, 0.1}, {0.2, 0.7}}, []float32{0.5, 0.5})), "00000000,3e9a90e8,true "},
		{"UnmixOnce of {0}, {{3}}, {0}", say(impl.UnmixOnce([]float32{0}, [][]float32{{3}}, []float32{0})), "00000000,true "},
		{"UnmixOnce of {0}, {{3}}, {minusZero}", say(impl.UnmixOnce([]float32{0}, [][]float32{{3}}, []float32{minusZero})), "00000000,true "},
		{"UnmixOnce of {-1}, {{3}}, {minusZero}", say(impl.UnmixOnce([]float32{-1}, [][]float32{{3}}, []float32{minusZero})), "00000000,true "},
		{"UnmixOnce of {5, 5}, {{1, 1}, {1, 1}}, {0, 0}", say(impl.UnmixOnce([]float32{5, 5}, [][]float32{{1, 1}, {1, 1}}, []float32{0, 0})), "40a00000,00000000,true "},
		{"UnmixOnce of {5, 5}, {{1, 1}, {1, 1}}, {9, 9}", say(impl.UnmixOnce([]float32{5, 5}, [][]float32{{1, 1}, {1, 1}}, []float32{9, 9})), "00000000,40a00000,true "},
		{"UnmixOnce of {1e-10}, {{10000000000}}, {3}", say(impl.UnmixOnce([]float32{1e-10}, [][]float32{{10000000000}}, []float32{3})), "00000000,true "},
	})
}

func TestUnmixedListsAreTold(t *testing.T) {
	wantTold(t, []told{
		{"Unmix of {2, 3}, {{1, 0}, {0, 1}}, 1", say(impl.Unmix([]float32{2, 3}, [][]float32{{1, 0}, {0, 1}}, 1)), "40000000,40400000,00000000 true "},
		{"Unmix of dull, threeColours, 1", say(impl.Unmix(dull, threeColours, 1)), "3f420cf3,3e037fff,3e8e5c71,3f9963e0 true "},
		{"Unmix of dull, threeColours, 2", say(impl.Unmix(dull, threeColours, 2)), "3f17306e,3e6c9eaa,3eb45066,3f3a1aee true "},
		{"Unmix of dull, threeColours, 7", say(impl.Unmix(dull, threeColours, 7)), "3ebd2a5b,3ecfd4d0,3ee0f715,3e63ce88 true "},
		{"Unmix of dull, threeColours, 64", say(impl.Unmix(dull, threeColours, 64)), "3eae9735,3edba335,3ee6a308,3e54d641 true "},
		{"Unmix of blues, {reds, greens}, 5", say(impl.Unmix(blues, [][]float32{reds, greens}, 5)), "3e984887,00000000,4044fe1c true "},
		{"Unmix of dull, {greens}, 64", say(impl.Unmix(dull, [][]float32{greens}, 64)), "3f539833,4009bad9 true "},
		{"Unmix of {0, 0}, {{1, 2}, {2, 1}}, 3", say(impl.Unmix([]float32{0, 0}, [][]float32{{1, 2}, {2, 1}}, 3)), "00000000,00000000,00000000 true "},
		{"Unmix of {-1, -2}, {{1, 2}, {2, 1}}, 3", say(impl.Unmix([]float32{-1, -2}, [][]float32{{1, 2}, {2, 1}}, 3)), "00000000,00000000,400f1bbd true "},
		{"Unmix of {4, 4}, {{1, 1}, {1, 1}}, 2", say(impl.Unmix([]float32{4, 4}, [][]float32{{1, 1}, {1, 1}}, 2)), "40800000,00000000,00000000 true "},
		{"Unmix of {1, 0.5}, {{1, 2}, {2, 1}}, 64", say(impl.Unmix([]float32{1, 0.5}, [][]float32{{1, 2}, {2, 1}}, 64)), "320a4a36,3f000000,00000000 true "},
		{"Unmix of {0.1, 0.7, 0.3}, {{0.2, 0.1, 0.9}, {0.4, 0.4, 0.1}}, 10", say(impl.Unmix([]float32{0.1, 0.7, 0.3}, [][]float32{{0.2, 0.1, 0.9}, {0.4, 0.4, 0.1}}, 10)), "3e41859e,3f70ba42,3ee0d726 true "},
	})
}

func TestPartsAreTold(t *testing.T) {
	wantTold(t, []told{
		{"PartsOfOne of {1, 3}", say(impl.PartsOfOne([]float32{1, 3})), "3e800000,3f400000,true "},
		{"PartsOfOne of {0.1, 0.2, 0.4}", say(impl.PartsOfOne([]float32{0.1, 0.2, 0.4})), "3e124924,3e924924,3f124924,true "},
		{"PartsOfOne of {7}", say(impl.PartsOfOne([]float32{7})), "3f800000,true "},
		{"PartsOfOne of {0, 5, 0}", say(impl.PartsOfOne([]float32{0, 5, 0})), "00000000,3f800000,00000000,true "},
		{"PartsOfOne of {minusZero, 5}", say(impl.PartsOfOne([]float32{minusZero, 5})), "80000000,3f800000,true "},
		{"PartsOfOne of {least, least}", say(impl.PartsOfOne([]float32{least, least})), "3f000000,3f000000,true "},
		{"PartsOfOne of {1, 1, 1}", say(impl.PartsOfOne([]float32{1, 1, 1})), "3eaaaaab,3eaaaaab,3eaaaaab,true "},
		{"PartsOfOne of {1e-30, 1e+30}", say(impl.PartsOfOne([]float32{1e-30, 1e+30})), "00000000,3f800000,true "},
		{"PartsOfOne of {1, 2, 3, 4, 5, 6, 7, 8}", say(impl.PartsOfOne([]float32{1, 2, 3, 4, 5, 6, 7, 8})), "3ce38e39,3d638e39,3daaaaab,3de38e39,3e0e38e4,3e2aaaab,3e471c72,3e638e39,true "},
	})
}

func TestPurestSpectraAreTold(t *testing.T) {
	wantTold(t, []told{
		{"PurestOf of {{1, 0}, {3, 0}, {0, 2}}, 2", say(impl.PurestOf([][]float32{{1, 0}, {3, 0}, {0, 2}}, 2)), "[1 2] true "},
		{"PurestOf of threeColours, 1", say(impl.PurestOf(threeColours, 1)), "[0] true "},
		{"PurestOf of threeColours, 2", say(impl.PurestOf(threeColours, 2)), "[0 2] true "},
		{"PurestOf of threeColours, 3", say(impl.PurestOf(threeColours, 3)), "[0 2 1] true "},
		{"PurestOf of fourColours, 4", say(impl.PurestOf(fourColours, 4)), "[0 2 1 3] true "},
		{"PurestOf of {dull, dull, reds}, 2", say(impl.PurestOf([][]float32{dull, dull, reds}, 2)), "[2 0] true "},
		{"PurestOf of {{1, 0}, {0, 1}}, 2", say(impl.PurestOf([][]float32{{1, 0}, {0, 1}}, 2)), "[0 1] true "},
		{"PurestOf of {{2, 0}, {0, 3}}, 2", say(impl.PurestOf([][]float32{{2, 0}, {0, 3}}, 2)), "[1 0] true "},
		{"PurestOf of {{1, 1}, {1, -1}, {2, 0}}, 2", say(impl.PurestOf([][]float32{{1, 1}, {1, -1}, {2, 0}}, 2)), "[2 0] true "},
		{"PurestOf of {{0}, {0.5}, {-0.5}}, 1", say(impl.PurestOf([][]float32{{0}, {0.5}, {-0.5}}, 1)), "[1] true "},
		{"PurestOf of {{3, 4}, {4, 3}, {5, 0}, {0, 5}}, 2", say(impl.PurestOf([][]float32{{3, 4}, {4, 3}, {5, 0}, {0, 5}}, 2)), "[0 2] true "},
		{"PurestOf of {{1e-20, 0}, {0, 1e-10}}, 2", say(impl.PurestOf([][]float32{{1e-20, 0}, {0, 1e-10}}, 2)), "[1 0] true "},
	})
}

func TestTurnedPhasesAreTold(t *testing.T) {
	wantTold(t, []told{
		{"TurnPhases of {complex(1, 0), complex(2, 0)}, 0", say(impl.TurnPhases([]complex64{complex(1, 0), complex(2, 0)}, 0)), "3f800000+00000000,40000000+00000000,true "},
		{"TurnPhases of {complex(1, 0), complex(1, 0), complex(1, 0), complex(1, 0), complex(1, 0)}, 0.25", say(impl.TurnPhases([]complex64{complex(1, 0), complex(1, 0), complex(1, 0), complex(1, 0), complex(1, 0)}, 0.25)), "3f800000+00000000,00000000+3f800000,bf800000+00000000,00000000+bf800000,3f800000+00000000,true "},
		{"TurnPhases of {complex(1, 0), complex(1, 0), complex(1, 0), complex(1, 0), complex(1, 0)}, -0.25", say(impl.TurnPhases([]complex64{complex(1, 0), complex(1, 0), complex(1, 0), complex(1, 0), complex(1, 0)}, -0.25)), "3f800000+00000000,00000000+bf800000,bf800000+00000000,00000000+3f800000,3f800000+00000000,true "},
		{"TurnPhases of {complex(1, 2), complex(3, -1), complex(0.1, 0.2)}, 0.1", say(impl.TurnPhases([]complex64{complex(1, 2), complex(3, -1), complex(0.1, 0.2)}, 0.1)), "3f800000+40000000,4040f314+3f744f8b,be23220f+3e20acc4,true "},
		{"TurnPhases of {complex(1, 2), complex(3, -1), complex(0.1, 0.2), complex(-0.7, 0.3)}, 0.37", say(impl.TurnPhases([]complex64{complex(1, 2), complex(3, -1), complex(0.1, 0.2), complex(-0.7, 0.3)}, 0.37)), "3f800000+40000000,bfa98ee0+4037c5e3,3e45f755+bde61d67,bf3b07b6+be5c3432,true "},
		{"TurnPhases of {complex(1, 0), complex(0, 1)}, 1e+20", say(impl.TurnPhases([]complex64{complex(1, 0), complex(0, 1)}, 1e+20)), "3f800000+00000000,00000000+3f800000,true "},
		{"TurnPhases of {complex(0.3, 0.4), complex(0.3, 0.4), complex(0.3, 0.4)}, greatest", say(impl.TurnPhases([]complex64{complex(0.3, 0.4), complex(0.3, 0.4), complex(0.3, 0.4)}, greatest)), "3e99999a+3ecccccd,3e99999a+3ecccccd,3e99999a+3ecccccd,true "},
		{"TurnPhases of {complex(0.3, 0.4), complex(0.3, 0.4), complex(0.3, 0.4)}, 3333.3333", say(impl.TurnPhases([]complex64{complex(0.3, 0.4), complex(0.3, 0.4), complex(0.3, 0.4)}, 3333.3333)), "3e99999a+3ecccccd,befe2575+3d760300,3e48a474+beeb8633,true "},
		{"TurnPhases of {complex(minusZero, 0), complex(0, minusZero)}, 0.5", say(impl.TurnPhases([]complex64{complex(minusZero, 0), complex(0, minusZero)}, 0.5)), "80000000+00000000,00000000+00000000,true "},
		{"TurnPhases of {complex(1, 1)}, minusZero", say(impl.TurnPhases([]complex64{complex(1, 1)}, minusZero)), "3f800000+3f800000,true "},
		{"MeanPhases of {complex(1, 0), complex(3, 0)}", say(impl.MeanPhases([]complex64{complex(1, 0), complex(3, 0)})), "40000000+00000000 true "},
		{"MeanPhases of {complex(1, 2), complex(3, -1), complex(0.1, 0.2)}", say(impl.MeanPhases([]complex64{complex(1, 2), complex(3, -1), complex(0.1, 0.2)})), "3faeeeef+3ecccccd true "},
		{"MeanPhases of {complex(minusZero, minusZero)}", say(impl.MeanPhases([]complex64{complex(minusZero, minusZero)})), "00000000+00000000 true "},
		{"MeanPhases of {complex(0.1, 0.2), complex(0.2, 0.4), complex(0.4, 0.8)}", say(impl.MeanPhases([]complex64{complex(0.1, 0.2), complex(0.2, 0.4), complex(0.4, 0.8)})), "3e6eeef0+3eeeeef0 true "},
		{"MeanPhases of {complex(greatest, -greatest)}", say(impl.MeanPhases([]complex64{complex(greatest, -greatest)})), "7f7fffff+ff7fffff true "},
		{"MeanPhases of {complex(least, 0), complex(0, 0)}", say(impl.MeanPhases([]complex64{complex(least, 0), complex(0, 0)})), "00000000+00000000 true "},
		{"MeanPhases of {complex(5, -7)}", say(impl.MeanPhases([]complex64{complex(5, -7)})), "40a00000+c0e00000 true "},
	})
}
