package rat_test

import (
	"cmp"
	"testing"

	"parlour/api"
	"parlour/rat"
)

// Four numbers whose sums, differences, products and quotients were computed elsewhere; c and d have common factors crosswise.
const (
	sampleA = "3141592653589793238462643383279502884197/2718281828459045235360287471352662497757"
	sampleB = "-5772156649015328606065120900824024310421/1414213562373095048801688724209698078569"
	sampleC = "1267650600228229401496703205376/2503155504993241601315571986085849"
	sampleD = "-717897987691852588770249/8665580274997661924293869568"
)

// P2.2
func TestArithmetic(t *testing.T) {
	for _, c := range []struct{ a, b, sum, difference, product, quotient string }{
		{"1/2", "1/3", "5/6", "1/6", "1/6", "3/2"},
		{"1/2", "1/2", "1", "0", "1/4", "1"},
		{"1/2", "-1/2", "0", "1", "-1/4", "-1"},
		{"-1/2", "-1/2", "-1", "0", "1/4", "1"},
		{"-1/2", "1/3", "-1/6", "-5/6", "-1/6", "-3/2"},
		{"2/3", "-3/4", "-1/12", "17/12", "-1/2", "-8/9"},
		{"1/2", "-1/4", "1/4", "3/4", "-1/8", "-2"},
		{"-2/3", "-3/2", "-13/6", "5/6", "1", "4/9"},
		{"0", "5/7", "5/7", "-5/7", "0", "0"},
		{"0", "-5/7", "-5/7", "5/7", "0", "0"},
		{"1", "-5/7", "2/7", "12/7", "-5/7", "-7/5"},
		{"1/6", "1/10", "4/15", "1/15", "1/60", "5/3"},
		{"1/6", "1/3", "1/2", "-1/6", "1/18", "1/2"},
		{"5/12", "-1/4", "1/6", "2/3", "-5/48", "-5/3"},
		{"7", "-9", "-2", "16", "-63", "-7/9"},
		{"8", "6", "14", "2", "48", "4/3"},
		{"3/4", "5", "23/4", "-17/4", "15/4", "3/20"},
		{sampleA, sampleB, "-11247465591879056603783197501170818224457118530539498961061301456790954769751604/3844231028159116824863671637426276877986022611107657018355599149229987172269733", "20133231468195789097814959481292205621681661258006719169062473199442163998699790/3844231028159116824863671637426276877986022611107657018355599149229987172269733", "-18133764923916034996131345312710400191073799920467073746829235182954113543316937/3844231028159116824863671637426276877986022611107657018355599149229987172269733", "-4442882938158366247015880990060693698612271363733610104000585871325604614474093/15690348530037422850799078491231511923069389894273109065061887328116559384225697"},
		{sampleC, sampleD, "9187917737012260126299451661103811188447646400274209291167/21691294969321245861594743301507055796039770713737426456543232", "12781938336841122547125811320123021267910597655349911503969/21691294969321245861594743301507055796039770713737426456543232", "-1024/24407490807", "-10984928036926691336712631490613416228179122027812060397568/1797010299914431210413179829509605039731475627537851106401"},
	} {
		a, b := number(c.a), number(c.b)
		x, e := rat.Add(a, b)
		is(t, c.a+" + "+c.b, x, e, c.sum)
		x, e = rat.Sub(a, b)
		is(t, c.a+" - "+c.b, x, e, c.difference)
		x, e = rat.Mul(a, b)
		is(t, c.a+" * "+c.b, x, e, c.product)
		x, e = rat.Div(a, b)
		is(t, c.a+" : "+c.b, x, e, c.quotient)
	}
}

// P2.2
func TestDivisionByZero(t *testing.T) {
	for _, a := range []string{"0", "1", "-1/2", nines()} {
		x, e := rat.Div(number(a), number("0"))
		fails(t, "Div", x, e, api.ErrZero)
		x, e = rat.Add(number(a), number("0"))
		is(t, "Add", x, e, a)
		x, e = rat.Sub(number(a), number("0"))
		is(t, "Sub", x, e, a)
		x, e = rat.Mul(number(a), number("0"))
		is(t, "Mul", x, e, "0")
		x, e = rat.Mul(number("0"), number(a))
		is(t, "Mul", x, e, "0")
	}
}

// P2.2: parts of 9,216 digits are not too long, also if they stand beside others of that length.
func TestLongResults(t *testing.T) {
	for i, c := range []struct {
		f          binary
		a, b, want string
	}{
		{rat.Add, nines(), "-1", less()},
		{rat.Add, less(), "1", nines()},
		{rat.Add, "-" + less(), "-1", "-" + nines()},
		{rat.Add, lowHalf() + "/3", lowHalf() + "/3", less() + "/3"},
		{rat.Add, "1/" + nines(), "-1/" + nines(), "0"},
		{rat.Add, "1/" + nines(), "1/" + nines(), "2/" + nines()},
		{rat.Sub, nines(), nines(), "0"},
		{rat.Sub, nines() + "/" + tens(9215), "3/" + tens(9214), nines()[2:] + "69/" + tens(9215)},
		{rat.Sub, "1/" + tens(9215), "-9/" + tens(9215), "1/" + tens(9214)},
		{rat.Mul, nines() + "/2", "2", nines()},
		{rat.Mul, nines() + "/" + tens(9215), tens(9215) + "/" + nines(), "1"},
		{rat.Mul, nines() + "/" + tens(9215), "-" + tens(9215), "-" + nines()},
		{rat.Mul, "-1/" + nines(), tens(9215), "-" + tens(9215) + "/" + nines()},
		{rat.Mul, tens(4607), tens(4608), tens(9215)},
		{rat.Div, nines(), "1/1", nines()},
		{rat.Div, nines(), nines(), "1"},
		{rat.Div, "1", nines(), "1/" + nines()},
		{rat.Div, "1", "-1/" + nines(), "-" + nines()},
		{rat.Div, nines(), tens(9215), nines() + "/" + tens(9215)},
		{rat.Div, nines() + "/2", "1/2", nines()},
	} {
		x, e := c.f(number(c.a), number(c.b))
		if is(t, "long", x, e, c.want); t.Failed() {
			t.Fatal(i)
		}
	}
}

// P2.2: a part of 9,217 digits is too long, the upper one or the lower one.
func TestTooLongResults(t *testing.T) {
	for i, c := range []struct {
		f    binary
		a, b string
	}{
		{rat.Add, nines(), "1"},
		{rat.Add, "-" + nines(), "-" + nines()},
		{rat.Add, nines(), "1/2"},
		{rat.Add, "1/" + nines(), "1/2"},
		{rat.Add, "1/" + nines(), "1"},
		{rat.Sub, nines(), "-1"},
		{rat.Sub, "-" + nines(), "1"},
		{rat.Sub, "1/" + nines(), "1/" + tens(9215)},
		{rat.Mul, nines(), "2"},
		{rat.Mul, nines(), "-" + nines()},
		{rat.Mul, "1/" + nines(), "1/2"},
		{rat.Mul, nines() + "/2", "3"},
		{rat.Mul, tens(4608), tens(4608)},
		{rat.Mul, nines() + "/" + tens(9215), nines() + "/" + tens(9215)},
		{rat.Div, nines(), "1/2"},
		{rat.Div, "1/2", nines()},
		{rat.Div, "1/" + nines(), "-2"},
	} {
		x, e := c.f(number(c.a), number(c.b))
		if fails(t, "too long", x, e, api.ErrOver); t.Failed() {
			t.Fatal(i)
		}
	}
}

// P2.2
func TestCmp(t *testing.T) {
	fibonacci := "43466557686937456435688527675040625802564660517371780402481729089536555417949051890403879840079255169295922593080322634775209689623239873322471161642996440906533187938298969649928516003704476137795166849228875"
	before := "26863810024485359386146727202142923967616609318986952340123175997617981700247881689338369654483356564191827856161443356312976673642210350324634850410377680367334151172899169723197082763985615764450078474174626"
	after := "70330367711422815821835254877183549770181269836358732742604905087154537118196933579742249494562611733487750449241765991088186363265450223647106012053374121273867339111198139373125598767690091902245245323403501"
	ordered := []string{
		"-" + nines(), "-" + nines()[1:], "-10", "-3/2", "-4/3", "-1", "-999999999/1000000000", "-1/" + tens(9215), "-1/" + nines(), "0",
		"1/" + nines(), "2/" + nines(), "1/" + tens(9215), "1/1000000001", "1/1000000000", tens(9215) + "/" + nines(), "1/3", "1/2", fibonacci + "/" + after, before + "/" + fibonacci, "2/3",
		less() + "/" + nines(), "1", nines() + "/" + less(), "1000000000/999999999", "4/3", fibonacci + "/" + before, after + "/" + fibonacci, nines() + "/2", nines(),
	}
	for i, a := range ordered {
		for j, b := range ordered {
			o, e := rat.Cmp(number(a), number(b))
			if o != cmp.Compare(i, j) || e != api.OK {
				t.Errorf("%.60s, %.60s: %v, %v", a, b, o, e)
			}
		}
	}
}

// P2.2: numbers with small parts are those of ints.
func TestArithmeticOfInts(t *testing.T) {
	of := func(a, b int) api.Rat { return must(t)(rat.Of(a, b)) }
	each := func(f func(a, b int)) {
		for a := -7; a <= 7; a++ {
			for b := 1; b <= 6; b++ {
				f(a, b)
			}
		}
	}
	each(func(a, b int) {
		each(func(c, d int) {
			x, y := of(a, b), of(c, d)
			if s := must(t)(rat.Add(x, y)); !equal(s, of(a*d+c*b, b*d)) {
				t.Fatal(a, b, c, d, s)
			}
			if s := must(t)(rat.Sub(x, y)); !equal(s, of(a*d-c*b, b*d)) {
				t.Fatal(a, b, c, d, s)
			}
			if p := must(t)(rat.Mul(x, y)); !equal(p, of(a*c, b*d)) {
				t.Fatal(a, b, c, d, p)
			}
			if o := compared(t, x, y); o != cmp.Compare(a*d, c*b) {
				t.Fatal(a, b, c, d, o)
			}
			if c == 0 {
				return
			}
			if q := must(t)(rat.Div(x, y)); !equal(q, of(a*d, b*c)) {
				t.Fatal(a, b, c, d, q)
			}
		})
	})
}
