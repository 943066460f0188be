package quantity

import (
	"math"
	"math/big"
	"math/rand"
	"regexp"
	"strings"
	"testing"

	"orchestrator/api"
)

// grammar is P1.1 in another form, to hold Parse against. \z instead of $, so that a newline at the end counts.
var grammar = regexp.MustCompile(`^(-?)(0|[1-9][0-9]{0,14})(?:(\.[0-9]{1,3})?(k|M|G|Ki|Mi|Gi)?|(m))\z`)

var factors = map[string]int64{"": 1, "k": 1000, "M": 1000000, "G": 1000000000, "Ki": 1024, "Mi": 1048576, "Gi": 1073741824}

// expectParse works out what Parse must answer by the grammar and by numbers without limits.
func expectParse(s string) (int, api.Errno) {
	parts := grammar.FindStringSubmatch(s)
	if parts == nil {
		return 0, api.ErrSyntax
	}
	v, _ := new(big.Rat).SetString(parts[2] + parts[3])
	if parts[5] != "m" {
		v.Mul(v, big.NewRat(1000*factors[parts[4]], 1))
	}
	if v.Cmp(big.NewRat(api.MaxNumber, 1)) > 0 {
		return 0, api.ErrRange
	}
	n := int(v.Num().Int64())
	if parts[1] == "-" {
		n = -n
	}
	return n, api.OK
}

func checkParse(t *testing.T, s string, want int, code api.Errno) {
	t.Helper()
	if n, e := Parse(s); n != want || e != code {
		t.Errorf("Parse(%q) = %d, %d; want %d, %d", s, n, e, want, code)
	}
}

func checkPrint(t *testing.T, n int, want string) {
	t.Helper()
	if s := Print(n); s != want {
		t.Errorf("Print(%d) = %q; want %q", n, s, want)
	}
}

func checkResolve(t *testing.T, a api.Amount, total int, up bool, want int) {
	t.Helper()
	if n := Resolve(a, total, up); n != want {
		t.Errorf("Resolve(%v, %d, %v) = %d; want %d", a, total, up, n, want)
	}
}

func percent(n int) api.Amount { return api.Amount{Percent: true, N: n} }

// edgeNumbers are numbers beside each edge that the chapter names.
func edgeNumbers() []int {
	l := []int{math.MinInt, math.MinInt + 1, math.MaxInt - 1, math.MaxInt}
	for _, n := range []int{0, 1, 50, 99, 100, 250, 999, 1000, 1536000, 1000000, 1000000000, 1000000000000, api.MaxNumber / 100, api.MaxNumber / 2, api.MaxNumber} {
		for d := -2; d <= 2; d++ {
			l = append(l, n+d, -n+d)
		}
	}
	return l
}

// randomNumber has a random number of digits, so that small numbers are not rare, and often ends in zeros.
func randomNumber(r *rand.Rand, limit int) int {
	n := r.Intn(limit + 1)
	for range r.Intn(16) {
		n /= 10
	}
	for range r.Intn(13) {
		if n > limit/10 {
			break
		}
		n *= 10
	}
	if r.Intn(2) == 0 {
		return -n
	}
	return n
}

func TestSyntaxAccepts(t *testing.T) { // P1.1
	for s, want := range map[string]int{
		"0": 0, "7": 7000, "10": 10000, "-3": -3000,
		"0.5": 500, "0.05": 50, "0.005": 5, "1.234": 1234, "1.000": 1000, "1.20": 1200, "-0.001": -1,
		"999999999999": 999999999999000, "999999999999999m": 999999999999999, "-100000000000000m": -100000000000000,
		"250m": 250, "0m": 0, "-0m": 0, "1m": 1, "3k": 3000000, "1M": 1000000000, "2G": 2000000000000,
		"0.001Ki": 1024, "2Ki": 2048000, "1Mi": 1048576000, "1Gi": 1073741824000, "0.125Gi": 134217728000, "1.5M": 1500000000,
	} {
		checkParse(t, s, want, api.OK)
	}
}

func TestSyntaxRefuses(t *testing.T) { // P1.1
	for _, s := range []string{
		"", "-", "--1", "+1", "+", "-+1", "1-", " 1", "1 ", "- 1", "1 k", "\t1", "1\n", "1\x00", "\x001",
		"00", "01", "-01", "00.5", "007m", ".", ".5", "-.5", "1.", "1.k", "1..5", "1.5.5", "1.0001", "1.0000", "0.0000", "1.-5",
		"1000000000000000", "1234567890123456", "-1000000000000000", "1000000000000000m", "0000000000000000", "1000000000000000.5Gi",
		"1.5m", "1.0m", "0.000m", "-0.5m", "1.m",
		"m", "k", "Gi", "-m", "1K", "1i", "1g", "1ki", "1KI", "1kI", "1mi", "1Kii", "1kk", "1mm", "1km", "1Kim", "1Ti", "1T", "1e3", "1E", "1u", "1n", "1B", "1KiB", "1Mib",
		"k1", "1k1", "1m1", "1,5", "1_000", "0x1", "1/2", "1:0", "inf", "NaN", "٣", "1٣", "１", "1µ", "\xff", "1\xff", "−1",
	} {
		checkParse(t, s, 0, api.ErrSyntax)
	}
}

func TestSyntaxOfAllShortTexts(t *testing.T) { // P1.1, P1.2
	checkExtensions(t, "", 5)
}

// checkExtensions checks s and every text that begins with it and has up to more bytes more.
func checkExtensions(t *testing.T, s string, more int) {
	want, code := expectParse(s)
	checkParse(t, s, want, code)
	if more == 0 {
		return
	}
	for _, c := range "-+019.mkMGKi " {
		checkExtensions(t, s+string(c), more-1)
	}
}

func TestSyntaxCountsDigits(t *testing.T) { // P1.1
	for digits := 1; digits <= 40; digits++ {
		for _, suffix := range []string{"", "m", "Gi"} {
			for _, fraction := range []string{"", ".5"} {
				s := strings.Repeat("9", digits) + fraction + suffix
				want, code := expectParse(s)
				checkParse(t, s, want, code)
				s = "0." + strings.Repeat("1", digits) + suffix
				want, code = expectParse(s)
				checkParse(t, s, want, code)
			}
		}
	}
}

func TestParseExamples(t *testing.T) { // P1.2
	checkParse(t, "250m", 250, api.OK)
	checkParse(t, "2", 2000, api.OK)
	checkParse(t, "1.5Ki", 1536000, api.OK)
	checkParse(t, "-0.25k", -250000, api.OK)
	for _, s := range []string{"01", "1.5m", "+1", "", "1K"} {
		checkParse(t, s, 0, api.ErrSyntax)
	}
	checkParse(t, "1001G", 0, api.ErrRange)
}

func TestParseZero(t *testing.T) { // P1.2
	for _, s := range []string{"0", "-0", "0.0", "0.00", "0.000", "-0.000", "0m", "-0m", "0k", "0M", "0G", "0Ki", "0Mi", "-0Gi", "0.000Gi"} {
		checkParse(t, s, 0, api.OK)
	}
}

func TestParseLimits(t *testing.T) { // P1.2
	for s, want := range map[string]int{
		"1000000000000": api.MaxNumber, "1000000000000.000": api.MaxNumber, "999999999999.999": api.MaxNumber - 1, "999999999999999m": api.MaxNumber - 1,
		"1000000000k": api.MaxNumber, "1000000M": api.MaxNumber, "1000G": api.MaxNumber, "999.999G": 999999000000000,
		"976562500Ki": api.MaxNumber, "953674.316Mi": 999999999574016, "931.322Gi": 999999383011328,
	} {
		checkParse(t, s, want, api.OK)
		checkParse(t, "-"+s, -want, api.OK)
	}
	for _, s := range []string{
		"1000000000000.001", "1000000000001", "999999999999999", "999999999999999.999",
		"1000000000.001k", "1000000001k", "1000000.001M", "1000.001G", "1001G", "999999999999999.999k",
		"976562500.001Ki", "953674.317Mi", "931.323Gi", "932Gi", "999999999999999.999Gi", "999999999999999G", "17179869184Gi", "18014398509482Ki",
	} {
		checkParse(t, s, 0, api.ErrRange)
		checkParse(t, "-"+s, 0, api.ErrRange)
	}
}

func TestParseSyntaxBeforeRange(t *testing.T) { // P1.2
	for _, s := range []string{"999999999999999Ti", "999999999999999.5m", "999999999999999G ", "-1000000000000000", "99999999999999999999999999G"} {
		checkParse(t, s, 0, api.ErrSyntax)
	}
}

func TestParseAgreesWithExactNumbers(t *testing.T) { // P1.2
	r := rand.New(rand.NewSource(1))
	for range 200000 {
		s := randomText(r)
		want, code := expectParse(s)
		checkParse(t, s, want, code)
	}
}

func randomText(r *rand.Rand) string {
	var b strings.Builder
	if r.Intn(3) == 0 {
		b.WriteByte('-')
	}
	b.WriteString(randomDigits(r, r.Intn(17)))
	if r.Intn(2) == 0 {
		b.WriteByte('.')
		b.WriteString(randomDigits(r, r.Intn(5)))
	}
	suffixes := []string{"", "m", "k", "M", "G", "Ki", "Mi", "Gi", "K"}
	b.WriteString(suffixes[r.Intn(len(suffixes))])
	return b.String()
}

func randomDigits(r *rand.Rand, count int) string {
	digits := make([]byte, count)
	for i := range digits {
		digits[i] = byte('0' + r.Intn(10))
	}
	return string(digits)
}

func TestPrint(t *testing.T) { // P1.3
	for n, want := range map[int]string{
		0: "0", 1: "1m", -1: "-1m", 250: "250m", 999: "999m", 1001: "1001m", -1500: "-1500m", 1536001: "1536001m",
		1000: "1", -1000: "-1", 2000: "2", 10000: "10", 100000: "100", 999000: "999", 1001000: "1001", 1536000: "1536", -1536000: "-1536",
		1000000: "1k", 3000000: "3k", -3000000: "-3k", 1024000000: "1024k", 999999000000: "999999k", 100000000: "100k",
		1000000000: "1M", -20000000000: "-20M", 1500000000: "1500k", 1001000000000: "1001M",
		1000000000000: "1G", -5000000000000: "-5G", 10000000000000: "10G", 999000000000000: "999G",
		999999999999000: "999999999999", api.MaxNumber - 1: "999999999999999m", -api.MaxNumber + 1: "-999999999999999m",
	} {
		checkPrint(t, n, want)
	}
}

func TestPrintClamps(t *testing.T) { // P1.3
	for _, n := range []int{api.MaxNumber, api.MaxNumber + 1, api.MaxNumber + 1000, 2 * api.MaxNumber, math.MaxInt} {
		checkPrint(t, n, "1000G")
	}
	for _, n := range []int{-api.MaxNumber, -api.MaxNumber - 1, -api.MaxNumber - 1000, -2 * api.MaxNumber, math.MinInt} {
		checkPrint(t, n, "-1000G")
	}
}

func TestResolveExamples(t *testing.T) { // P1.4
	checkResolve(t, percent(25), 10, true, 3)
	checkResolve(t, percent(25), 10, false, 2)
}

func TestResolveNumber(t *testing.T) { // P1.4
	for _, up := range []bool{false, true} {
		for _, total := range []int{math.MinInt, -1, 0, 3, api.MaxNumber, math.MaxInt} {
			for n, want := range map[int]int{0: 0, 1: 1, 7: 7, 250: 250, -1: 0, -api.MaxNumber: 0, math.MinInt: 0, api.MaxNumber - 1: api.MaxNumber - 1, api.MaxNumber: api.MaxNumber, api.MaxNumber + 1: api.MaxNumber, math.MaxInt: api.MaxNumber} {
				checkResolve(t, api.Amount{N: n}, total, up, want)
			}
		}
	}
}

func TestResolvePercentage(t *testing.T) { // P1.4
	for _, c := range []struct{ n, total, down, up int }{
		{0, 0, 0, 0}, {0, 10, 0, 0}, {0, api.MaxNumber, 0, 0}, {100, 0, 0, 0}, {1, 1, 0, 1}, {99, 1, 0, 1}, {100, 1, 1, 1}, {101, 1, 1, 2}, {1, 99, 0, 1}, {1, 100, 1, 1}, {1, 101, 1, 2},
		{50, 3, 1, 2}, {50, 4, 2, 2}, {33, 100, 33, 33}, {33, 10, 3, 4}, {200, 7, 14, 14}, {150, 3, 4, 5}, {100, 40, 40, 40},
		{-1, 10, 0, 0}, {25, -10, 0, 0}, {math.MinInt, 10, 0, 0}, {25, math.MinInt, 0, 0}, {math.MinInt, math.MinInt, 0, 0},
		{100, api.MaxNumber, api.MaxNumber, api.MaxNumber}, {100, api.MaxNumber - 1, api.MaxNumber - 1, api.MaxNumber - 1}, {100, math.MaxInt, api.MaxNumber, api.MaxNumber},
		{99, api.MaxNumber, 990000000000000, 990000000000000}, {99, api.MaxNumber - 1, 989999999999999, 990000000000000}, {101, api.MaxNumber, api.MaxNumber, api.MaxNumber}, {1, math.MaxInt, api.MaxNumber / 100, api.MaxNumber / 100},
		{api.MaxNumber, 100, api.MaxNumber, api.MaxNumber}, {api.MaxNumber, 99, 990000000000000, 990000000000000}, {api.MaxNumber - 1, 99, 989999999999999, 990000000000000}, {api.MaxNumber, 101, api.MaxNumber, api.MaxNumber}, {api.MaxNumber, 1, api.MaxNumber / 100, api.MaxNumber / 100},
		{api.MaxNumber, api.MaxNumber, api.MaxNumber, api.MaxNumber}, {math.MaxInt, math.MaxInt, api.MaxNumber, api.MaxNumber}, {math.MaxInt, 1, api.MaxNumber / 100, api.MaxNumber / 100},
	} {
		checkResolve(t, percent(c.n), c.total, false, c.down)
		checkResolve(t, percent(c.n), c.total, true, c.up)
	}
}

// expectPercentage works out a percentage by numbers without limits.
func expectPercentage(n, total int, up bool) int {
	within := func(n int) *big.Int { return big.NewInt(int64(max(0, min(n, api.MaxNumber)))) }
	product := new(big.Int).Mul(within(n), within(total))
	if up {
		product.Add(product, big.NewInt(99))
	}
	product.Div(product, big.NewInt(100))
	if product.Cmp(big.NewInt(api.MaxNumber)) > 0 {
		return api.MaxNumber
	}
	return int(product.Int64())
}

func TestResolveAgreesWithExactNumbers(t *testing.T) { // P1.4
	edges := edgeNumbers()
	for _, n := range edges {
		for _, total := range edges {
			for _, up := range []bool{false, true} {
				checkResolve(t, percent(n), total, up, expectPercentage(n, total, up))
			}
		}
	}
	r := rand.New(rand.NewSource(2))
	for range 100000 {
		n, total, up := randomNumber(r, 2*api.MaxNumber), randomNumber(r, 2*api.MaxNumber), r.Intn(2) == 0
		checkResolve(t, percent(n), total, up, expectPercentage(n, total, up))
	}
}

func TestRoundTrip(t *testing.T) { // P1.5
	r := rand.New(rand.NewSource(3))
	numbers := edgeNumbers()
	for range 100000 {
		numbers = append(numbers, randomNumber(r, api.MaxNumber))
	}
	for _, n := range numbers {
		if n < -api.MaxNumber || n > api.MaxNumber {
			continue
		}
		checkParse(t, Print(n), n, api.OK)
	}
}

func TestOneTextPerValue(t *testing.T) { // P1.5
	for want, texts := range map[string][]string{
		"0":     {"0", "-0", "0.000", "0m", "-0Gi"},
		"1":     {"1", "1.0", "1.00", "1.000", "1000m", "0.001k"},
		"1500m": {"1.5", "1.50", "1500m"},
		"1k":    {"1k", "1000", "1000000m", "0.001M", "1.000k"},
		"1536":  {"1.5Ki", "1536", "1536000m", "1.536k"},
		"-1G":   {"-1G", "-1000M", "-1000000k", "-1000000000", "-1.0G"},
		"1000G": {"1000G", "1000000M", "976562500Ki", "1000000000000"},
	} {
		for _, s := range texts {
			n, e := Parse(s)
			if e != api.OK {
				t.Errorf("Parse(%q) = %d", s, e)
			}
			checkPrint(t, n, want)
		}
	}
}

func TestRoundingsAreClose(t *testing.T) { // P1.6
	edges := edgeNumbers()
	for _, n := range edges {
		for _, total := range edges {
			down, up := Resolve(percent(n), total, false), Resolve(percent(n), total, true)
			if up < down || up > down+1 {
				t.Errorf("%d percent of %d: %d and %d", n, total, down, up)
			}
		}
	}
}

func TestGreaterTotalResolvesToNoLess(t *testing.T) { // P1.6
	for _, n := range edgeNumbers() {
		for _, up := range []bool{false, true} {
			for _, start := range edgeNumbers() {
				before := Resolve(percent(n), start, up)
				for d := 1; d <= 3 && start <= math.MaxInt-d; d++ {
					after := Resolve(percent(n), start+d, up)
					if after < before {
						t.Fatalf("%d percent of %d is %d, of one less %d", n, start+d, after, before)
					}
					before = after
				}
			}
		}
	}
}

func TestAllArguments(t *testing.T) { // P1, P2: every argument has an answer, the same one again, and nothing beside an error
	for _, n := range edgeNumbers() {
		if Print(n) != Print(n) {
			t.Errorf("Print(%d) answers differently", n)
		}
		for _, a := range []api.Amount{{N: n}, percent(n)} {
			if got := Resolve(a, n, true); got < 0 || got > api.MaxNumber {
				t.Errorf("Resolve(%v, %d) = %d", a, n, got)
			}
		}
	}
	for _, s := range []string{strings.Repeat("1", 1<<20), strings.Repeat("-", 1<<20), "1." + strings.Repeat("0", 1<<20), "1" + strings.Repeat("k", 1<<20), strings.Repeat("\x80", 1<<20)} {
		checkParse(t, s, 0, api.ErrSyntax)
	}
	for c := range 256 {
		for _, s := range []string{string([]byte{byte(c)}), string([]byte{'1', byte(c)}), string([]byte{byte(c), '1'}), string([]byte{'1', '.', byte(c)}), string([]byte{'1', byte(c), 'i'})} {
			want, code := expectParse(s)
			checkParse(t, s, want, code)
		}
	}
}

func FuzzParse(f *testing.F) { // P1.1, P1.2
	for _, s := range []string{"0", "-0.25k", "1.5Ki", "999999999999999m", "931.323Gi", "1.5m"} {
		f.Add(s)
	}
	f.Fuzz(func(t *testing.T, s string) {
		want, code := expectParse(s)
		checkParse(t, s, want, code)
	})
}
