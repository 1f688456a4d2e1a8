// Package whole reads whole numbers as every layer's texts write them.
package whole

import "strconv"

// Read tells the number of which s is the text: decimal digits, without noughts ahead, a hyphen ahead below 0; false, if there is none.
func Read(s string) (int, bool) {
	n, err := strconv.Atoi(s)
	// Written again and compared, since strconv alone would take a plus, -0 and noughts ahead, too.
	if err != nil || strconv.Itoa(n) != s {
		return 0, false
	}
	return n, true
}
